import Derived.Test.YtpbbmnefcfllmaaDoorK1
import Derived.BigQuiet
import Derived.Deep.RegionHeld3
import Derived.Deep.DeepCutAuto
import Derived.Deep.QuietTactic
import Derived.LoopTactic
/- Plain facts of layer 3: where items and members begin; values put together. No program in sight. -/
namespace Go.Proofs.YtpbbmnefcfllmaaDoor
open Go.RowKit
theorem ckC_parts {g : Nat → CR} {n : Nat} (h : ckC g n = true) : 0 < n ∧ n ≤ 2048 ∧ em (g 0).nm = true ∧ wk g n 16 0 = some n := by
  unfold ckC at h
  simp only [Bool.and_eq_true, decide_eq_true_eq] at h
  exact ⟨h.1.1.1, h.1.1.2, h.1.2, h.2⟩
theorem ckC_mk {g : Nat → CR} {n : Nat} (h1 : 0 < n) (h2 : n ≤ 2048) (h3 : em (g 0).nm = true) (h4 : wk g n 16 0 = some n) : ckC g n = true := by
  unfold ckC
  simp only [Bool.and_eq_true, decide_eq_true_eq]
  exact ⟨⟨⟨h1, h2⟩, h3⟩, h4⟩
/-- Behind the value that begins at a place. -/
def nx (g : Nat → CR) (n a : Nat) : Nat := (wk g n 16 a).getD a
/-- Where the i-th value from a place on begins. -/
def bd (g : Nat → CR) (n a : Nat) : Nat → Nat
  | 0 => a
  | i + 1 => nx g n (bd g n a i)
theorem bd_next (g : Nat → CR) (n a : Nat) : ∀ i, bd g n a (i + 1) = bd g n (nx g n a) i
  | 0 => rfl
  | i + 1 => by show nx g n (bd g n a (i + 1)) = nx g n (bd g n (nx g n a) i); rw [bd_next g n a i]
theorem nx_some {g : Nat → CR} {n a e : Nat} (h : wk g n 16 a = some e) : nx g n a = e := by unfold nx; rw [h]; rfl
theorem bd_chain {g : Nat → CR} {n : Nat} : ∀ (m a e : Nat), Chain g n m a e → (∀ i, i < m → wk g n 16 (bd g n a i) = some (bd g n a (i + 1))) ∧ bd g n a m = e
  | 0, a, e, h => ⟨fun i hi => by omega, h⟩
  | m + 1, a, e, h => by
    obtain ⟨a', h1, h2⟩ := h
    have hn := nx_some h1
    obtain ⟨k1, k2⟩ := bd_chain m a' e h2
    refine ⟨fun i hi => ?_, by rw [bd_next, hn]; exact k2⟩
    cases i with
    | zero => show wk g n 16 a = some (nx g n a); rw [hn]; exact h1
    | succ i =>
      rw [bd_next, bd_next, hn]
      exact k1 i (by omega)
theorem chain_bd {g : Nat → CR} {n : Nat} (a : Nat) (b : Nat → Nat) : ∀ (m : Nat), (∀ i, i < m → wk g n 16 (b i) = some (b (i + 1))) → b 0 = a → ∀ i, i ≤ m → bd g n a i = b i
  | m, h, h0, 0, _ => h0.symm
  | m, h, h0, i + 1, hi => by
    show nx g n (bd g n a i) = _
    rw [chain_bd a b m h h0 i (by omega)]
    exact nx_some (h i (by omega))
/-- The members' names of an object are apart. -/
theorem names_apart {g : Nat → CR} {n r a e : Nat} (hr : r ≤ 16) (h : wk g n r a = some e) (hk : (g a).k = 7) : ∀ i, i < (g a).m.toNat → namedP true [] (g (bd g n (a + 1) i)).nm = true ∧ ∀ j, j < i → (g (bd g n (a + 1) j)).nm ≠ (g (bd g n (a + 1) i)).nm := by
  have hc := (wk_open hr h).2.2.2
  have hb := (bd_chain _ _ _ hc).1
  cases r with
  | zero =>
    rw [wk_z] at h
    have : headP (g a) = true := by simp [headP, hk]
    rw [this] at h
    simp at h
  | succ r =>
    rw [wk_s] at h
    split at h
    · cases h
    · split at h
      · rw [if_pos (by simp [headP, hk]), hk] at h
        intro i hi
        have hbr : ∀ i, i < (g a).m.toNat → wk g n r (bd g n (a + 1) i) = some (bd g n (a + 1) (i + 1)) := by
          have K : ∀ (m : Nat) (names : List ByteArray) (b : Nat → Nat), kidsF (wk g n r) g n true m names (b 0) = some e → (∀ i, i < m → wk g n 16 (b i) = some (b (i + 1))) → ∀ i, i < m → wk g n r (b i) = some (b (i + 1)) := by
            intro m
            induction m with
            | zero => intro _ _ _ _ i hi; omega
            | succ m ih =>
              intro names b hk hb i hi
              rw [kidsF] at hk
              split at hk
              · cases hk
              · split at hk
                · cases hx : wk g n r (b 0) with
                  | none => rw [hx] at hk; cases hk
                  | some a' =>
                    rw [hx] at hk
                    have e1 := wk_up (r' := 16) (by omega) hx
                    rw [hb 0 (by omega)] at e1
                    simp only [Option.some.injEq] at e1
                    cases i with
                    | zero => rw [hx, e1]
                    | succ i =>
                      rw [← e1] at hk
                      exact ih _ (fun t => b (t + 1)) hk (fun t ht => hb (t + 1) (by omega)) i (by omega)
                · cases hk
          exact K _ _ (bd g n (a + 1)) h hb
        have k := kidsF_names _ [] (bd g n (a + 1)) (by rw [show bd g n (a + 1) 0 = a + 1 from rfl, show decide ((7 : Nat) = 7) = true from rfl] at *; rw [h]; simp) hbr i hi
        exact ⟨k.1, (k.2 rfl).2⟩
      · cases h
end Go.Proofs.YtpbbmnefcfllmaaDoor
/- Plain facts of layer 3: lists of cells; values put together under a head; a value cut out. No program in sight. -/
namespace Go.Proofs.YtpbbmnefcfllmaaDoor
open Go.RowKit
def gl (L : List CR) (i : Nat) : CR := L.getD i default
def ckL (L : List CR) : Bool := ckC (gl L) L.length
/-- The cells, the first one's name aside. -/
def ren (s : ByteArray) : List CR → List CR
  | [] => []
  | c :: r => { c with nm := s } :: r
theorem ren_len (s : ByteArray) (l : List CR) : (ren s l).length = l.length := by cases l <;> rfl
theorem ren_at (s : ByteArray) (l : List CR) (t : Nat) (h : t < l.length) : (gl (ren s l) t).k = (gl l t).k ∧ (gl (ren s l) t).tx = (gl l t).tx ∧ (gl (ren s l) t).n = (gl l t).n ∧ (gl (ren s l) t).m = (gl l t).m ∧ (0 < t → (gl (ren s l) t).nm = (gl l t).nm) := by
  cases l with
  | nil => simp at h
  | cons c r =>
    cases t with
    | zero => exact ⟨rfl, rfl, rfl, rfl, fun h => by omega⟩
    | succ t => exact ⟨rfl, rfl, rfl, rfl, fun _ => rfl⟩
theorem ren_nm (s : ByteArray) (l : List CR) (h : 0 < l.length) : (gl (ren s l) 0).nm = s := by
  cases l with
  | nil => simp at h
  | cons c r => rfl
/-- Where the i-th of some lists begins, put one behind the other from a place on. -/
def st (a : Nat) (ls : List (List CR)) (i : Nat) : Nat := a + ((ls.take i).map List.length).sum
theorem st_zero (a : Nat) (ls : List (List CR)) : st a ls 0 = a := by simp [st]
theorem st_succ (a : Nat) (ls : List (List CR)) (i : Nat) (h : i < ls.length) : st a ls (i + 1) = st a ls i + ls[i].length := by
  unfold st
  rw [List.take_succ_eq_append_getElem h, List.map_append, List.sum_append]
  show a + (_ + (ls[i].length + 0)) = _
  omega
theorem st_all (a : Nat) (ls : List (List CR)) : st a ls ls.length = a + ls.flatten.length := by
  unfold st
  rw [List.take_length, List.length_flatten]
theorem flat_at : ∀ (ls : List (List CR)) (i t : Nat) (h : i < ls.length), t < ls[i].length → gl ls.flatten (st 0 ls i + t) = gl ls[i] t
  | [], i, t, h, _ => by simp at h
  | l :: ls, 0, t, h, ht => by
    have ht' : t < l.length := ht
    unfold gl st
    simp only [List.take_zero, List.map_nil, List.sum_nil, Nat.zero_add, List.flatten_cons, List.getElem_cons_zero]
    rw [List.getD_eq_getElem?_getD, List.getD_eq_getElem?_getD, List.getElem?_append_left ht']
  | l :: ls, i + 1, t, h, ht => by
    have h' : i < ls.length := by simpa using h
    have ht' : t < ls[i].length := by simpa using ht
    have ih := flat_at ls i t h' ht'
    have e : st 0 (l :: ls) (i + 1) = l.length + st 0 ls i := by simp [st]
    rw [e]
    unfold gl at ih ⊢
    simp only [List.flatten_cons, List.getElem_cons_succ]
    rw [← ih, List.getD_eq_getElem?_getD, List.getD_eq_getElem?_getD, List.getElem?_append_right (by omega)]
    congr 2
    omega
/-- Values (renamed) under a head. -/
def under (h : CR) (ls : List (List CR)) : List CR := h :: ls.flatten
theorem under_at (h : CR) (ls : List (List CR)) (i t : Nat) (hi : i < ls.length) (ht : t < ls[i].length) : gl (under h ls) (st 1 ls i + t) = gl ls[i] t := by
  rw [← flat_at ls i t hi ht]
  unfold under gl
  rw [show st 1 ls i + t = (st 0 ls i + t) + 1 by unfold st; omega]
  rfl
theorem under_len (h : CR) (ls : List (List CR)) : (under h ls).length = st 1 ls ls.length := by
  rw [st_all]; simp [under]; omega
theorem st_le (a : Nat) (ls : List (List CR)) : ∀ (d i : Nat), i + d ≤ ls.length → st a ls i ≤ st a ls (i + d)
  | 0, _, _ => Nat.le_refl _
  | d + 1, i, h => by
    have := st_le a ls d i (by omega)
    have := st_succ a ls (i + d) (by omega)
    rw [show i + (d + 1) = i + d + 1 by omega]
    omega
/-- Each of the values that were put together begins one where it stands. -/
theorem under_wk (h : CR) (vs ls : List (List CR)) (hl : ls.length = vs.length) (hr : ∀ i (h1 : i < ls.length) (h2 : i < vs.length), ∃ s, ls[i] = ren s vs[i]) (hv : ∀ i (h2 : i < vs.length), ckL vs[i] = true) :
    ∀ i, i < ls.length → wk (gl (under h ls)) (under h ls).length 16 (st 1 ls i) = some (st 1 ls (i + 1)) := by
  intro i hi
  have h2 : i < vs.length := by omega
  obtain ⟨s, es⟩ := hr i hi h2
  obtain ⟨k1, _, _, k4⟩ := ckC_parts (hv i h2)
  have el : ls[i].length = vs[i].length := by rw [es, ren_len]
  have e1 := st_succ 1 ls i hi
  have e2 := st_le 1 ls (ls.length - (i + 1)) (i + 1) (by omega)
  rw [show i + 1 + (ls.length - (i + 1)) = ls.length by omega] at e2
  have k := wk_shift (g1 := gl vs[i]) (n1 := vs[i].length) (s1 := 0) (g2 := gl (under h ls)) (n2 := (under h ls).length) (s2 := st 1 ls i) 16 0 vs[i].length (by simpa using k4) ?_ (by rw [under_len]; omega)
  · rw [Nat.zero_add] at k
    rw [k, e1, el, Nat.add_comm]
  · intro t _ ht
    have q := ren_at s vs[i] t ht
    rw [← es] at q
    have u := under_at h ls i t hi (by omega)
    rw [Nat.add_comm t (st 1 ls i), u, Nat.add_zero]
    exact ⟨q.1.symm, q.2.1.symm, q.2.2.1.symm, q.2.2.2.1.symm, fun hh => (q.2.2.2.2 (by rcases hh with e | e; cases e; exact e)).symm⟩
theorem under_bd (h : CR) (vs ls : List (List CR)) (hl : ls.length = vs.length) (hr : ∀ i (h1 : i < ls.length) (h2 : i < vs.length), ∃ s, ls[i] = ren s vs[i]) (hv : ∀ i (h2 : i < vs.length), ckL vs[i] = true) :
    ∀ i, i ≤ ls.length → bd (gl (under h ls)) (under h ls).length 1 i = st 1 ls i :=
  chain_bd 1 (st 1 ls) ls.length (under_wk h vs ls hl hr hv) (st_zero 1 ls)
/-- Cells from a place to another one. -/
def cut (g : Nat → CR) (a e : Nat) : List CR := (List.range (e - a)).map fun i => g (a + i)
theorem cut_len (g : Nat → CR) (a e : Nat) : (cut g a e).length = e - a := by simp [cut]
theorem cut_at (g : Nat → CR) (a e t : Nat) (h : t < e - a) : gl (cut g a e) t = g (a + t) := by
  unfold gl cut
  rw [List.getD_eq_getElem?_getD, List.getElem?_map, List.getElem?_range h]
  rfl
theorem em_eq {s : ByteArray} (h : em s = true) : s = ⟨#[]⟩ := by
  unfold em at h
  simp only [decide_eq_true_eq] at h
  exact ByteArray.ext (Array.eq_empty_of_size_eq_zero h)
/-- What is cut out of a value, without its name, is a value. -/
theorem sub_ck {g : Nat → CR} {n a e : Nat} (h : wk g n 16 a = some e) (hn : n ≤ 2048) : ckL (ren ⟨#[]⟩ (cut g a e)) = true := by
  have hl := wk_lt _ _ _ h
  have e1 : (ren ⟨#[]⟩ (cut g a e)).length = e - a := by rw [ren_len, cut_len]
  refine ckC_mk (by omega) (by omega) (by rw [ren_nm _ _ (by rw [cut_len]; omega)]; rfl) ?_
  rw [e1]
  have k := wk_shift (g1 := g) (n1 := n) (s1 := a) (g2 := gl (ren ⟨#[]⟩ (cut g a e))) (n2 := e - a) (s2 := 0) 16 0 (e - a) (by rw [Nat.zero_add, Nat.sub_add_cancel (by omega)]; exact h) ?_ (by omega)
  · simpa using k
  · intro t _ ht
    have q := ren_at ⟨#[]⟩ (cut g a e) t (by rw [cut_len]; exact ht)
    rw [cut_at g a e t ht, Nat.add_comm] at q
    rw [Nat.add_zero]
    exact ⟨q.1.symm, q.2.1.symm, q.2.2.1.symm, q.2.2.2.1.symm, fun hh => (q.2.2.2.2 (by rcases hh with w | w; cases w; exact w)).symm⟩
theorem ren_self {l : List CR} {s : ByteArray} (h : (gl l 0).nm = s) : ren s l = l := by
  cases l with
  | nil => rfl
  | cons c r =>
    have : c.nm = s := h
    unfold ren; rw [← this]
theorem ren_ren (s t : ByteArray) (l : List CR) : ren s (ren t l) = ren s l := by cases l <;> rfl
theorem gl_ext {L M : List CR} (h : L.length = M.length) (k : ∀ i, i < L.length → gl L i = gl M i) : L = M := by
  apply List.ext_getElem h
  intro i h1 h2
  have := k i h1
  unfold gl at this
  rw [List.getD_eq_getElem?_getD, List.getD_eq_getElem?_getD, List.getElem?_eq_getElem h1, List.getElem?_eq_getElem h2] at this
  exact this
/-- Sub of a value that was put in, where it stands, is that value. -/
theorem under_sub (h : CR) (vs ls : List (List CR)) (hl : ls.length = vs.length) (hr : ∀ i (h1 : i < ls.length) (h2 : i < vs.length), ∃ s, ls[i] = ren s vs[i]) (hv : ∀ i (h2 : i < vs.length), ckL vs[i] = true) (i : Nat) (hi : i < ls.length) (h2 : i < vs.length) :
    ren ⟨#[]⟩ (cut (gl (under h ls)) (st 1 ls i) (st 1 ls (i + 1))) = vs[i] := by
  obtain ⟨s, es⟩ := hr i hi h2
  obtain ⟨k1, _, k3, _⟩ := ckC_parts (hv i h2)
  have el : ls[i].length = vs[i].length := by rw [es, ren_len]
  have e1 := st_succ 1 ls i hi
  have ec : cut (gl (under h ls)) (st 1 ls i) (st 1 ls (i + 1)) = ls[i] := by
    refine gl_ext (by rw [cut_len]; omega) fun t ht => ?_
    rw [cut_len] at ht
    rw [cut_at _ _ _ _ ht, under_at h ls i t hi (by omega)]
  rw [ec, es, ren_ren]
  exact ren_self (em_eq k3)
/-- What is put together of a value's subs (renamed) is that value. -/
theorem parts_under {g : Nat → CR} {n a e : Nat} (h : wk g n 16 a = some e) (ls : List (List CR)) (hl : ls.length = (g a).m.toNat) (hs : ∀ i (h1 : i < ls.length), ls[i] = cut g (bd g n (a + 1) i) (bd g n (a + 1) (i + 1))) :
    under (g a) ls = cut g a e := by
  have hc := (wk_open (Nat.le_refl _) h).2.2.2
  obtain ⟨b1, b2⟩ := bd_chain _ _ _ hc
  have hl2 := wk_lt _ _ _ h
  have hst : ∀ i, i ≤ ls.length → st (a + 1) ls i = bd g n (a + 1) i := by
    intro i
    induction i with
    | zero => intro _; rw [st_zero]; rfl
    | succ i ih =>
      intro hi
      have q := ih (by omega)
      have w := wk_lt _ _ _ (b1 i (by omega))
      rw [st_succ _ _ _ (by omega), q, hs i (by omega), cut_len]
      omega
  have e0 : ls.flatten.length = e - (a + 1) := by
    have := hst ls.length (Nat.le_refl _)
    rw [st_all, hl, b2] at this
    omega
  have e3 : (under (g a) ls).length = ls.flatten.length + 1 := rfl
  refine gl_ext (by rw [cut_len, e3]; omega) fun t ht => ?_
  have ht' : t < e - a := by rw [e3] at ht; omega
  rw [cut_at _ _ _ _ ht']
  cases t with
  | zero => rfl
  | succ t =>
    -- which of them
    have key : ∀ (i : Nat), i ≤ ls.length → ∀ t, a + 1 + t < bd g n (a + 1) i → gl ls.flatten t = g (a + 1 + t) := by
      intro i
      induction i with
      | zero => intro _ t hq; exact absurd hq (by show ¬ (a + 1 + t < a + 1); omega)
      | succ i ih =>
        intro hi t hq
        by_cases hlt : a + 1 + t < bd g n (a + 1) i
        · exact ih (by omega) t hlt
        · have q := hst i (by omega)
          have q0 : st 0 ls i + (a + 1) = bd g n (a + 1) i := by rw [← q]; unfold st; omega
          have lt : t - st 0 ls i < ls[i].length := by rw [hs i (by omega), cut_len]; omega
          have f := flat_at ls i (t - st 0 ls i) (by omega) lt
          rw [show st 0 ls i + (t - st 0 ls i) = t by omega] at f
          rw [f, hs i (by omega), cut_at _ _ _ _ (by omega)]
          congr 1
          omega
    have := key ls.length (Nat.le_refl _) t (by rw [hl, b2]; omega)
    show gl ls.flatten t = _
    rw [this]
    congr 1
    omega
end Go.Proofs.YtpbbmnefcfllmaaDoor
/- Layer 3: what a cell's checks tell. -/
namespace Go.Proofs.YtpbbmnefcfllmaaDoor
open Go.RowKit
def cv (c : CR) : Value := .agg #[.int .u8 c.k, .string c.nm, .string c.tx, .int .i64 c.n, .int .i64 c.m]
def ccells (c : CR) : Array Value := #[.int .u8 c.k, .string c.nm, .string c.tx, .int .i64 c.n, .int .i64 c.m]
theorem size_nil {s : ByteArray} (h : s.toList = []) : s.size = 0 := by
  rw [ByteArray.toList_eq] at h
  have : s.data = #[] := by simpa using h
  show s.data.size = 0
  rw [this]; rfl
theorem em_yes {s : ByteArray} (h : em s = true) : s = ⟨#[]⟩ := em_eq h
theorem em_no {s : ByteArray} (h : em s = false) : s.toList.isEmpty = false := by
  unfold em at h
  simp only [decide_eq_false_iff_not] at h
  cases hs : s.toList with
  | nil =>
    exfalso
    apply h
    exact size_nil hs
  | cons _ _ => rfl
set_option maxRecDepth 20000 in
theorem bare_any (c : CR) (w : World) : Calls Tryd.prog 29 #[cv c] w fun e w' => e = .returned (.bool (em c.tx && decide (c.m = 0))) ∧ Below w.heap.size w w' := by
  obtain ⟨k, nm, tx, n, m⟩ := c
  show Calls Tryd.prog 29 #[cv ⟨k, nm, tx, n, m⟩] w fun e w' => e = .returned (.bool (em tx && decide (m = 0))) ∧ Below w.heap.size w w'
  unfold cv
  obtain ⟨r, hr⟩ : ∃ r, r = (em tx && decide (m = 0)) := ⟨_, rfl⟩
  rw [← hr]
  by_cases he : em tx = true
  · by_cases hm : m = 0
    · have HB := Lib.hid (show r = true by rw [hr, he, hm]; rfl)
      obtain rfl := em_yes he
      subst hm
      clear he
      clear hr
      go_enter Tryd.func29, Tryd.ntmps29
      go_wp2_with fail
      go_ret
      exact ⟨ret_bool HB.out.symm, (Below.refl _ _).alloc (Nat.le_refl _) _⟩
    · have HB := Lib.hid (show r = false by rw [hr, decide_eq_false hm, Bool.and_false])
      obtain rfl := em_yes he
      have g : (m == 0) = false := by rw [beq_eq_false_iff_ne]; exact hm
      clear he hm
      clear hr
      go_enter Tryd.func29, Tryd.ntmps29
      go_wp2_with fail
      go_ret
      exact ⟨ret_bool HB.out.symm, (Below.refl _ _).alloc (Nat.le_refl _) _⟩
  · replace he : em tx = false := by simpa using he
    have HB := Lib.hid (show r = false by rw [hr, he, Bool.false_and])
    have g := em_no he
    clear he
    clear hr
    go_enter Tryd.func29, Tryd.ntmps29
    go_wp2_with fail
    go_ret
    exact ⟨ret_bool HB.out.symm, (Below.refl _ _).alloc (Nat.le_refl _) _⟩
set_option maxRecDepth 20000 in
theorem only_any (c : CR) (w : World) : Calls Tryd.prog 32 #[cv c] w fun e w' => e = .returned (.bool (decide (c.n = 0) && decide (c.m = 0))) ∧ Below w.heap.size w w' := by
  obtain ⟨k, nm, tx, n, m⟩ := c
  show Calls Tryd.prog 32 #[cv ⟨k, nm, tx, n, m⟩] w fun e w' => e = .returned (.bool (decide (n = 0) && decide (m = 0))) ∧ Below w.heap.size w w'
  unfold cv
  obtain ⟨r, hr⟩ : ∃ r, r = (decide (n = 0) && decide (m = 0)) := ⟨_, rfl⟩
  rw [← hr]
  by_cases he : n = 0
  · by_cases hm : m = 0
    · have HB := Lib.hid (show r = true by rw [hr, he, hm]; rfl)
      subst he
      subst hm
      clear hr
      go_enter Tryd.func32, Tryd.ntmps32
      go_wp2_with fail
      go_ret
      exact ⟨ret_bool HB.out.symm, (Below.refl _ _).alloc (Nat.le_refl _) _⟩
    · have HB := Lib.hid (show r = false by rw [hr, decide_eq_false hm, Bool.and_false])
      subst he
      have g : (m == 0) = false := by rw [beq_eq_false_iff_ne]; exact hm
      clear hm
      clear hr
      go_enter Tryd.func32, Tryd.ntmps32
      go_wp2_with fail
      go_ret
      exact ⟨ret_bool HB.out.symm, (Below.refl _ _).alloc (Nat.le_refl _) _⟩
  · have HB := Lib.hid (show r = false by rw [hr, decide_eq_false he, Bool.false_and])
    have g : (n == 0) = false := by rw [beq_eq_false_iff_ne]; exact he
    clear he
    clear hr
    go_enter Tryd.func32, Tryd.ntmps32
    go_wp2_with fail
    go_ret
    exact ⟨ret_bool HB.out.symm, (Below.refl _ _).alloc (Nat.le_refl _) _⟩
set_option maxRecDepth 20000 in
theorem head_any (c : CR) (w : World) : Calls Tryd.prog 37 #[cv c] w fun e w' => e = .returned (.bool (decide (c.n = 0) && em c.tx && decide (0 ≤ c.m))) ∧ Below w.heap.size w w' := by
  obtain ⟨k, nm, tx, n, m⟩ := c
  show Calls Tryd.prog 37 #[cv ⟨k, nm, tx, n, m⟩] w fun e w' => e = .returned (.bool (decide (n = 0) && em tx && decide (0 ≤ m))) ∧ Below w.heap.size w w'
  unfold cv
  obtain ⟨r, hr⟩ : ∃ r, r = (decide (n = 0) && em tx && decide (0 ≤ m)) := ⟨_, rfl⟩
  rw [← hr]
  by_cases he : n = 0
  · cases ht : em tx with
    | true =>
      obtain rfl := em_yes ht
      by_cases hm : 0 ≤ m
      · have HB := Lib.hid (show r = true by rw [hr, he, ht, decide_eq_true hm]; rfl)
        subst he
        clear ht
        clear hr
        go_enter Tryd.func37, Tryd.ntmps37
        go_wp2_with fail
        go_ret
        exact ⟨ret_bool HB.out.symm, (Below.refl _ _).alloc (Nat.le_refl _) _⟩
      · have HB := Lib.hid (show r = false by rw [hr, decide_eq_false hm, Bool.and_false])
        subst he
        clear ht
        have g : ¬ (0 : Int) ≤ m := hm
        clear hm
        clear hr
        go_enter Tryd.func37, Tryd.ntmps37
        go_wp2_with fail
        go_ret
        exact ⟨ret_bool HB.out.symm, (Below.refl _ _).alloc (Nat.le_refl _) _⟩
    | false =>
      have HB := Lib.hid (show r = false by rw [hr, ht, Bool.and_false, Bool.false_and])
      have g := em_no ht
      subst he
      clear ht
      clear hr
      go_enter Tryd.func37, Tryd.ntmps37
      go_wp2_with fail
      go_ret
      exact ⟨ret_bool HB.out.symm, (Below.refl _ _).alloc (Nat.le_refl _) _⟩
  · have HB := Lib.hid (show r = false by rw [hr, decide_eq_false he, Bool.false_and, Bool.false_and])
    have g : (n == 0) = false := by rw [beq_eq_false_iff_ne]; exact he
    clear he
    clear hr
    go_enter Tryd.func37, Tryd.ntmps37
    go_wp2_with fail
    go_ret
    exact ⟨ret_bool HB.out.symm, (Below.refl _ _).alloc (Nat.le_refl _) _⟩
set_option maxRecDepth 20000 in
theorem more_any (c : CR) (w : World) : Calls Tryd.prog 23 #[cv c] w fun e w' => e = .returned (.bool (decide (c.k = 6) || decide (c.k = 7))) ∧ Below w.heap.size w w' := by
  obtain ⟨k, nm, tx, n, m⟩ := c
  show Calls Tryd.prog 23 #[cv ⟨k, nm, tx, n, m⟩] w fun e w' => e = .returned (.bool (decide (k = 6) || decide (k = 7))) ∧ Below w.heap.size w w'
  unfold cv
  obtain ⟨r, hr⟩ : ∃ r, r = (decide (k = 6) || decide (k = 7)) := ⟨_, rfl⟩
  rw [← hr]
  by_cases he : k = 6
  · have HB := Lib.hid (show r = true by rw [hr, he]; rfl)
    subst he
    clear hr
    go_enter Tryd.func23, Tryd.ntmps23
    go_wp2_with fail
    go_ret
    exact ⟨ret_bool HB.out.symm, (Below.refl _ _).alloc (Nat.le_refl _) _⟩
  · have g1 : ((k : Int) == 6) = false := by rw [beq_eq_false_iff_ne]; omega
    by_cases hm : k = 7
    · have HB := Lib.hid (show r = true by rw [hr, hm]; rfl)
      subst hm
      clear he g1
      clear hr
      go_enter Tryd.func23, Tryd.ntmps23
      go_wp2_with fail
      go_ret
      exact ⟨ret_bool HB.out.symm, (Below.refl _ _).alloc (Nat.le_refl _) _⟩
    · have HB := Lib.hid (show r = false by rw [hr, decide_eq_false he, decide_eq_false hm]; rfl)
      have g2 : ((k : Int) == 7) = false := by rw [beq_eq_false_iff_ne]; omega
      clear he hm
      clear hr
      go_enter Tryd.func23, Tryd.ntmps23
      go_wp2_with fail
      go_ret
      exact ⟨ret_bool HB.out.symm, (Below.refl _ _).alloc (Nat.le_refl _) _⟩
end Go.Proofs.YtpbbmnefcfllmaaDoor
/- Layer 3: names, and the checks of the kinds by their numbers. -/
namespace Go.Proofs.YtpbbmnefcfllmaaDoor
open Go.RowKit
/-- What a name may have at a place. -/
def okAt (b : UInt8) (j : Nat) : Bool := letB b || (decide (j ≠ 0) && dgB b)
theorem all_from : ∀ (l : List UInt8) (j : Nat), (∀ i (h : i < l.length), okAt l[i] (j + 1 + i) = true) ↔ l.all (fun c => letB c || dgB c) = true
  | [], _ => by simp
  | b :: r, j => by
    have ih := all_from r (j + 1)
    rw [List.all_cons, Bool.and_eq_true, ← ih]
    constructor
    · intro h
      refine ⟨?_, fun i hi => ?_⟩
      · have := h 0 (by simp)
        simpa [okAt] using this
      · have := h (i + 1) (by simpa using hi)
        rw [show j + 1 + (i + 1) = j + 1 + 1 + i by omega] at this
        exact this
    · rintro ⟨h1, h2⟩ i hi
      cases i with
      | zero => simpa [okAt] using h1
      | succ i =>
        have := h2 i (by simpa using hi)
        rw [show j + 1 + (i + 1) = j + 1 + 1 + i by omega]
        exact this
theorem nm_iff (s : ByteArray) : nmB s = true ↔ s.size ≠ 0 ∧ ∀ i (h : i < s.size), okAt s[i] i = true := by
  have e : s.size = s.data.toList.length := by rw [Array.length_toList]; rfl
  have hget : ∀ i (h : i < s.size), s[i] = s.data.toList[i]'(by rw [← e]; exact h) := fun i h => rfl
  have key : (∀ i (h : i < s.size), okAt s[i] i = true) ↔ ∀ i (h : i < s.data.toList.length), okAt s.data.toList[i] i = true :=
    ⟨fun k i h => by have := k i (by rw [e]; exact h); rw [hget] at this; exact this, fun k i h => by rw [hget]; exact k i _⟩
  rw [key, e]
  unfold nmB
  generalize s.data.toList = l
  cases l with
  | nil => simp [nmL]
  | cons b r =>
    have := all_from r 0
    unfold nmL
    rw [Bool.and_eq_true, ← this]
    constructor
    · rintro ⟨h1, h2⟩
      refine ⟨by simp, fun i hi => ?_⟩
      cases i with
      | zero => simpa [okAt] using h1
      | succ i =>
        have := h2 i (by simpa using hi)
        rw [show 0 + 1 + i = i + 1 by omega] at this
        exact this
    · rintro ⟨_, h⟩
      refine ⟨?_, fun i hi => ?_⟩
      · have := h 0 (by simp)
        simpa [okAt] using this
      · have := h (i + 1) (by simpa using hi)
        rw [show 0 + 1 + i = i + 1 by omega]
        exact this
theorem nm_bad {s : ByteArray} {i : Nat} (h : i < s.size) (hb : okAt s[i] i = false) : nmB s = false := by
  cases hn : nmB s with
  | false => rfl
  | true => rw [((nm_iff s).1 hn).2 i h] at hb; cases hb
theorem by256c {P : UInt8 → Bool} (h : (List.range 256).all (fun n => P (UInt8.ofNat n)) = true) (b : UInt8) : P b = true := by
  have := List.all_eq_true.1 h b.toNat (List.mem_range.2 (UInt8.toNat_lt b))
  simpa using this
theorem let_val (b : UInt8) : letB b = (decide (b.toNat = 95) || (decide (97 ≤ b.toNat) && decide (b.toNat ≤ 122)) || (decide (65 ≤ b.toNat) && decide (b.toNat ≤ 90))) := by
  have := by256c (P := fun b => letB b == (decide (b.toNat = 95) || (decide (97 ≤ b.toNat) && decide (b.toNat ≤ 122)) || (decide (65 ≤ b.toNat) && decide (b.toNat ≤ 90)))) (by decide +kernel) b
  simpa using this
theorem dg_val (b : UInt8) : dgB b = (decide (48 ≤ b.toNat) && decide (b.toNat ≤ 57)) := by
  have := by256c (P := fun b => dgB b == (decide (48 ≤ b.toNat) && decide (b.toNat ≤ 57))) (by decide +kernel) b
  simpa using this
set_option maxRecDepth 20000 in
set_option maxHeartbeats 2000000 in
theorem name_any (s : ByteArray) (w : World) (hs : s.size ≤ 1000000) : Calls Tryd.prog 35 #[.string s] w fun e w' => e = .returned (.bool (nmB s)) ∧ w' = w := by
  obtain ⟨r, hr⟩ : ∃ r, r = nmB s := ⟨_, rfl⟩
  rw [← hr]
  have HR := Lib.hid hr
  clear hr
  go_enter Tryd.func35, Tryd.ntmps35
  go_wp2_with fail
  go_loop [3] (fun v => ∃ i : Nat, i ≤ s.size ∧ v = .int .i64 i ∧ Hid (∀ j (h : j < s.size), j < i → okAt s[j] j = true)) (fun v => s.size - (intOf v).toNat)
  case atStart => exact ⟨0, Nat.zero_le _, rfl, Lib.hid (fun j _ hj => absurd hj (Nat.not_lt_zero j))⟩
  case round =>
    obtain ⟨i, hi, rfl, HP⟩ := hrel
    by_cases hlt : i < s.size
    · obtain ⟨b, hb⟩ : ∃ b, b = s[i].toNat := ⟨_, rfl⟩
      have k0 : ∀ q : i < s.size, (s[i].toNat : Int) = (b : Nat) := fun q => by rw [hb]
      have HL := Lib.hid (let_val s[i])
      have HD := Lib.hid (dg_val s[i])
      have hb2 : b < 256 := by rw [hb]; exact UInt8.toNat_lt _
      rw [← hb] at HL HD
      clear hb
      have HN : Hid (okAt s[i] i = true → ∀ j (h : j < s.size), j < i + 1 → okAt s[j] j = true) := Lib.hid (fun ho j h hj => by
        by_cases e : j = i
        · subst e; exact ho
        · exact HP.out j h (by omega))
      have HB : Hid (okAt s[i] i = false → r = false) := Lib.hid (fun ho => HR.out.trans (nm_bad hlt ho))
      clear HP HR
      have hi0 : (0 : Int) ≤ (i : Int) := by omega
      rcases (by omega : (0 ≤ b ∧ b ≤ 47) ∨ (48 ≤ b ∧ b ≤ 57) ∨ (58 ≤ b ∧ b ≤ 64) ∨ (65 ≤ b ∧ b ≤ 90) ∨ (91 ≤ b ∧ b ≤ 94) ∨ (95 ≤ b ∧ b ≤ 95) ∨ (96 ≤ b ∧ b ≤ 96) ∨ (97 ≤ b ∧ b ≤ 122) ∨ (123 ≤ b ∧ b ≤ 255)) with ⟨r1, r2⟩ | ⟨r1, r2⟩ | ⟨r1, r2⟩ | ⟨r1, r2⟩ | ⟨r1, r2⟩ | ⟨r1, r2⟩ | ⟨r1, r2⟩ | ⟨r1, r2⟩ | ⟨r1, r2⟩
      · have hL : letB s[i] = false := by rw [HL.out]; simp; omega
        have hD : dgB s[i] = false := by rw [HD.out]; simp; omega
        have g95 : ((b : Int) == 95) = false := by rw [beq_eq_false_iff_ne]; omega
        have g97 : ¬ (97 : Int) ≤ b := by omega
        have g122 : (b : Int) ≤ 122 := by omega
        have g65 : ¬ (65 : Int) ≤ b := by omega
        have g90 : (b : Int) ≤ 90 := by omega
        have g48 : (b : Int) < 48 := by omega
        have g57 : ¬ (57 : Int) < b := by omega
        clear r1 r2 HL HD
        by_cases h0 : i = 0
        · subst h0
          have z0 : (((0 : Nat) : Int) == 0) = true := rfl
          have HO := Lib.hid (HB.out (by unfold okAt; rw [hL, hD]; rfl))
          clear HN HB hL hD
          go_wp2_with fail
          go_ret
          exact ⟨ret_bool HO.out.symm, rfl⟩
        · have z0 : ((i : Int) == 0) = false := by rw [beq_eq_false_iff_ne]; omega
          have HO := Lib.hid (HB.out (by unfold okAt; rw [hL, hD]; simp))
          clear HN HB hL hD h0
          go_wp2_with fail
          go_ret
          exact ⟨ret_bool HO.out.symm, rfl⟩
      · have hL : letB s[i] = false := by rw [HL.out]; simp; omega
        have hD : dgB s[i] = true := by rw [HD.out]; simp; omega
        have g95 : ((b : Int) == 95) = false := by rw [beq_eq_false_iff_ne]; omega
        have g97 : ¬ (97 : Int) ≤ b := by omega
        have g122 : (b : Int) ≤ 122 := by omega
        have g65 : ¬ (65 : Int) ≤ b := by omega
        have g90 : (b : Int) ≤ 90 := by omega
        have g48 : ¬ (b : Int) < 48 := by omega
        have g57 : ¬ (57 : Int) < b := by omega
        clear r1 r2 HL HD
        by_cases h0 : i = 0
        · subst h0
          have z0 : (((0 : Nat) : Int) == 0) = true := rfl
          have HO := Lib.hid (HB.out (by unfold okAt; rw [hL, hD]; rfl))
          clear HN HB hL hD
          go_wp2_with fail
          go_ret
          exact ⟨ret_bool HO.out.symm, rfl⟩
        · have z0 : ((i : Int) == 0) = false := by rw [beq_eq_false_iff_ne]; omega
          have HO := Lib.hid (HN.out (by unfold okAt; rw [hL, hD]; simp [h0]))
          clear HN HB hL hD h0
          go_wp2_with fail
          go_round
          case rel => exact ⟨i + 1, by omega, by go_num, HO⟩
          case measure => simp [intOf]; omega
      · have hL : letB s[i] = false := by rw [HL.out]; simp; omega
        have hD : dgB s[i] = false := by rw [HD.out]; simp; omega
        have g95 : ((b : Int) == 95) = false := by rw [beq_eq_false_iff_ne]; omega
        have g97 : ¬ (97 : Int) ≤ b := by omega
        have g122 : (b : Int) ≤ 122 := by omega
        have g65 : ¬ (65 : Int) ≤ b := by omega
        have g90 : (b : Int) ≤ 90 := by omega
        have g48 : ¬ (b : Int) < 48 := by omega
        have g57 : (57 : Int) < b := by omega
        clear r1 r2 HL HD
        by_cases h0 : i = 0
        · subst h0
          have z0 : (((0 : Nat) : Int) == 0) = true := rfl
          have HO := Lib.hid (HB.out (by unfold okAt; rw [hL, hD]; rfl))
          clear HN HB hL hD
          go_wp2_with fail
          go_ret
          exact ⟨ret_bool HO.out.symm, rfl⟩
        · have z0 : ((i : Int) == 0) = false := by rw [beq_eq_false_iff_ne]; omega
          have HO := Lib.hid (HB.out (by unfold okAt; rw [hL, hD]; simp))
          clear HN HB hL hD h0
          go_wp2_with fail
          go_ret
          exact ⟨ret_bool HO.out.symm, rfl⟩
      · have hL : letB s[i] = true := by rw [HL.out]; simp; omega
        have hD : dgB s[i] = false := by rw [HD.out]; simp; omega
        have g95 : ((b : Int) == 95) = false := by rw [beq_eq_false_iff_ne]; omega
        have g97 : ¬ (97 : Int) ≤ b := by omega
        have g122 : (b : Int) ≤ 122 := by omega
        have g65 : (65 : Int) ≤ b := by omega
        have g90 : (b : Int) ≤ 90 := by omega
        have g48 : ¬ (b : Int) < 48 := by omega
        have g57 : (57 : Int) < b := by omega
        clear r1 r2 HL HD
        have HO := Lib.hid (HN.out (by unfold okAt; rw [hL, hD]; rfl))
        clear HN HB hL hD
        go_wp2_with fail
        go_round
        case rel => exact ⟨i + 1, by omega, by go_num, HO⟩
        case measure => simp [intOf]; omega
      · have hL : letB s[i] = false := by rw [HL.out]; simp; omega
        have hD : dgB s[i] = false := by rw [HD.out]; simp; omega
        have g95 : ((b : Int) == 95) = false := by rw [beq_eq_false_iff_ne]; omega
        have g97 : ¬ (97 : Int) ≤ b := by omega
        have g122 : (b : Int) ≤ 122 := by omega
        have g65 : (65 : Int) ≤ b := by omega
        have g90 : ¬ (b : Int) ≤ 90 := by omega
        have g48 : ¬ (b : Int) < 48 := by omega
        have g57 : (57 : Int) < b := by omega
        clear r1 r2 HL HD
        by_cases h0 : i = 0
        · subst h0
          have z0 : (((0 : Nat) : Int) == 0) = true := rfl
          have HO := Lib.hid (HB.out (by unfold okAt; rw [hL, hD]; rfl))
          clear HN HB hL hD
          go_wp2_with fail
          go_ret
          exact ⟨ret_bool HO.out.symm, rfl⟩
        · have z0 : ((i : Int) == 0) = false := by rw [beq_eq_false_iff_ne]; omega
          have HO := Lib.hid (HB.out (by unfold okAt; rw [hL, hD]; simp))
          clear HN HB hL hD h0
          go_wp2_with fail
          go_ret
          exact ⟨ret_bool HO.out.symm, rfl⟩
      · have hL : letB s[i] = true := by rw [HL.out]; simp; omega
        have hD : dgB s[i] = false := by rw [HD.out]; simp; omega
        have g95 : ((b : Int) == 95) = true := by rw [beq_iff_eq]; omega
        have g97 : ¬ (97 : Int) ≤ b := by omega
        have g122 : (b : Int) ≤ 122 := by omega
        have g65 : (65 : Int) ≤ b := by omega
        have g90 : ¬ (b : Int) ≤ 90 := by omega
        have g48 : ¬ (b : Int) < 48 := by omega
        have g57 : (57 : Int) < b := by omega
        clear r1 r2 HL HD
        have HO := Lib.hid (HN.out (by unfold okAt; rw [hL, hD]; rfl))
        clear HN HB hL hD
        go_wp2_with fail
        go_round
        case rel => exact ⟨i + 1, by omega, by go_num, HO⟩
        case measure => simp [intOf]; omega
      · have hL : letB s[i] = false := by rw [HL.out]; simp; omega
        have hD : dgB s[i] = false := by rw [HD.out]; simp; omega
        have g95 : ((b : Int) == 95) = false := by rw [beq_eq_false_iff_ne]; omega
        have g97 : ¬ (97 : Int) ≤ b := by omega
        have g122 : (b : Int) ≤ 122 := by omega
        have g65 : (65 : Int) ≤ b := by omega
        have g90 : ¬ (b : Int) ≤ 90 := by omega
        have g48 : ¬ (b : Int) < 48 := by omega
        have g57 : (57 : Int) < b := by omega
        clear r1 r2 HL HD
        by_cases h0 : i = 0
        · subst h0
          have z0 : (((0 : Nat) : Int) == 0) = true := rfl
          have HO := Lib.hid (HB.out (by unfold okAt; rw [hL, hD]; rfl))
          clear HN HB hL hD
          go_wp2_with fail
          go_ret
          exact ⟨ret_bool HO.out.symm, rfl⟩
        · have z0 : ((i : Int) == 0) = false := by rw [beq_eq_false_iff_ne]; omega
          have HO := Lib.hid (HB.out (by unfold okAt; rw [hL, hD]; simp))
          clear HN HB hL hD h0
          go_wp2_with fail
          go_ret
          exact ⟨ret_bool HO.out.symm, rfl⟩
      · have hL : letB s[i] = true := by rw [HL.out]; simp; omega
        have hD : dgB s[i] = false := by rw [HD.out]; simp; omega
        have g95 : ((b : Int) == 95) = false := by rw [beq_eq_false_iff_ne]; omega
        have g97 : (97 : Int) ≤ b := by omega
        have g122 : (b : Int) ≤ 122 := by omega
        have g65 : (65 : Int) ≤ b := by omega
        have g90 : ¬ (b : Int) ≤ 90 := by omega
        have g48 : ¬ (b : Int) < 48 := by omega
        have g57 : (57 : Int) < b := by omega
        clear r1 r2 HL HD
        have HO := Lib.hid (HN.out (by unfold okAt; rw [hL, hD]; rfl))
        clear HN HB hL hD
        go_wp2_with fail
        go_round
        case rel => exact ⟨i + 1, by omega, by go_num, HO⟩
        case measure => simp [intOf]; omega
      · have hL : letB s[i] = false := by rw [HL.out]; simp; omega
        have hD : dgB s[i] = false := by rw [HD.out]; simp; omega
        have g95 : ((b : Int) == 95) = false := by rw [beq_eq_false_iff_ne]; omega
        have g97 : (97 : Int) ≤ b := by omega
        have g122 : ¬ (b : Int) ≤ 122 := by omega
        have g65 : (65 : Int) ≤ b := by omega
        have g90 : ¬ (b : Int) ≤ 90 := by omega
        have g48 : ¬ (b : Int) < 48 := by omega
        have g57 : (57 : Int) < b := by omega
        clear r1 r2 HL HD
        by_cases h0 : i = 0
        · subst h0
          have z0 : (((0 : Nat) : Int) == 0) = true := rfl
          have HO := Lib.hid (HB.out (by unfold okAt; rw [hL, hD]; rfl))
          clear HN HB hL hD
          go_wp2_with fail
          go_ret
          exact ⟨ret_bool HO.out.symm, rfl⟩
        · have z0 : ((i : Int) == 0) = false := by rw [beq_eq_false_iff_ne]; omega
          have HO := Lib.hid (HB.out (by unfold okAt; rw [hL, hD]; simp))
          clear HN HB hL hD h0
          go_wp2_with fail
          go_ret
          exact ⟨ret_bool HO.out.symm, rfl⟩
    · have hge : ¬ ((i : Int) < s.size) := by omega
      cases he : em s with
      | true =>
        obtain rfl := em_yes he
        have HO := Lib.hid (HR.out.trans (show nmB ⟨#[]⟩ = false from rfl))
        clear he HP HR
        go_wp2_with fail
        go_ret
        exact ⟨ret_bool HO.out.symm, rfl⟩
      | false =>
        have g := em_no he
        have HO := Lib.hid (HR.out.trans ((nm_iff s).2 ⟨by unfold em at he; simpa using he, fun j h => HP.out j h (by omega)⟩))
        clear he HP HR
        go_wp2_with fail
        go_ret
        exact ⟨ret_bool HO.out.symm, rfl⟩
end Go.Proofs.YtpbbmnefcfllmaaDoor
/- Layer 3: the checks of the kinds, by the kind's number; the array of them. -/
namespace Go.Proofs.YtpbbmnefcfllmaaDoor
open Go.RowKit
theorem ck_yes {s : ByteArray} (h : ckB s = true) : ckE s = 0 := by unfold ckB at h; simpa using h
theorem ck_no {s : ByteArray} (h : ckB s = false) : ckE s ≠ 0 := by unfold ckB at h; simpa using h
set_option maxRecDepth 20000 in
theorem fit0 (c : CR) (w : World) : Calls Tryd.prog 28 #[cv c] w fun e w' => e = .returned (.bool ((em c.tx && decide (c.m = 0)) && (decide (c.n = 0)))) ∧ Below w.heap.size w w' := by
  obtain ⟨r, hr⟩ : ∃ r, r = ((em c.tx && decide (c.m = 0)) && (decide (c.n = 0))) := ⟨_, rfl⟩
  rw [← hr]
  obtain ⟨q, hq⟩ : ∃ q, q = (em c.tx && decide (c.m = 0)) := ⟨_, rfl⟩
  have HC := Lib.hid (bare_any c)
  rw [← hq] at HC hr
  clear hq
  obtain ⟨k, nm, tx, n, m⟩ := c
  unfold cv at HC ⊢
  simp only [] at hr HC ⊢
  cases q with
  | false =>
    have HB := Lib.hid (show r = false by rw [hr]; rfl)
    clear hr
    go_enter Tryd.func28, Tryd.ntmps28
    go_wp2_with fail
    with_reducible refine (HC.out _).mono ?_
    rintro e w1 ⟨rfl, b1⟩
    have B1 := Lib.hid (((Below.refl w.heap.size w).alloc (Nat.le_refl _) (.cells #[.int .u8 k, .string nm, .string tx, .int .i64 n, .int .i64 m] 33)).trans (b1.mono (by simp)))
    have c2 : w1.cell? ⟨w.heap.size, 2, none⟩ = some (.string tx) := by rw [b1.cell (p := ⟨w.heap.size, 2, none⟩) (by simp)]; simp
    have c3 : w1.cell? ⟨w.heap.size, 3, none⟩ = some (.int .i64 n) := by rw [b1.cell (p := ⟨w.heap.size, 3, none⟩) (by simp)]; simp
    clear b1
    go_wp2_with fail
    go_ret
    exact ⟨ret_bool HB.out.symm, B1.out⟩
  | true =>
    by_cases h : n = 0
    · have HB := Lib.hid (show r = true by rw [hr, h]; rfl)
      subst h
      clear hr
      go_enter Tryd.func28, Tryd.ntmps28
      go_wp2_with fail
      with_reducible refine (HC.out _).mono ?_
      rintro e w1 ⟨rfl, b1⟩
      have B1 := Lib.hid (((Below.refl w.heap.size w).alloc (Nat.le_refl _) (.cells #[.int .u8 k, .string nm, .string tx, .int .i64 0, .int .i64 m] 33)).trans (b1.mono (by simp)))
      have c2 : w1.cell? ⟨w.heap.size, 2, none⟩ = some (.string tx) := by rw [b1.cell (p := ⟨w.heap.size, 2, none⟩) (by simp)]; simp
      have c3 : w1.cell? ⟨w.heap.size, 3, none⟩ = some (.int .i64 0) := by rw [b1.cell (p := ⟨w.heap.size, 3, none⟩) (by simp)]; simp
      clear b1
      go_wp2_with fail
      go_ret
      exact ⟨ret_bool HB.out.symm, B1.out⟩
    · have HB := Lib.hid (show r = false by rw [hr, decide_eq_false h]; rfl)
      have g : (n == 0) = false := by rw [beq_eq_false_iff_ne]; exact h
      clear hr h
      go_enter Tryd.func28, Tryd.ntmps28
      go_wp2_with fail
      with_reducible refine (HC.out _).mono ?_
      rintro e w1 ⟨rfl, b1⟩
      have B1 := Lib.hid (((Below.refl w.heap.size w).alloc (Nat.le_refl _) (.cells #[.int .u8 k, .string nm, .string tx, .int .i64 n, .int .i64 m] 33)).trans (b1.mono (by simp)))
      have c2 : w1.cell? ⟨w.heap.size, 2, none⟩ = some (.string tx) := by rw [b1.cell (p := ⟨w.heap.size, 2, none⟩) (by simp)]; simp
      have c3 : w1.cell? ⟨w.heap.size, 3, none⟩ = some (.int .i64 n) := by rw [b1.cell (p := ⟨w.heap.size, 3, none⟩) (by simp)]; simp
      clear b1
      go_wp2_with fail
      go_ret
      exact ⟨ret_bool HB.out.symm, B1.out⟩
set_option maxRecDepth 20000 in
theorem fit1 (c : CR) (w : World) : Calls Tryd.prog 30 #[cv c] w fun e w' => e = .returned (.bool ((em c.tx && decide (c.m = 0)) && (decide (c.n = 0) || decide (c.n = 1)))) ∧ Below w.heap.size w w' := by
  obtain ⟨r, hr⟩ : ∃ r, r = ((em c.tx && decide (c.m = 0)) && (decide (c.n = 0) || decide (c.n = 1))) := ⟨_, rfl⟩
  rw [← hr]
  obtain ⟨q, hq⟩ : ∃ q, q = (em c.tx && decide (c.m = 0)) := ⟨_, rfl⟩
  have HC := Lib.hid (bare_any c)
  rw [← hq] at HC hr
  clear hq
  obtain ⟨k, nm, tx, n, m⟩ := c
  unfold cv at HC ⊢
  simp only [] at hr HC ⊢
  cases q with
  | false =>
    have HB := Lib.hid (show r = false by rw [hr]; rfl)
    clear hr
    go_enter Tryd.func30, Tryd.ntmps30
    go_wp2_with fail
    with_reducible refine (HC.out _).mono ?_
    rintro e w1 ⟨rfl, b1⟩
    have B1 := Lib.hid (((Below.refl w.heap.size w).alloc (Nat.le_refl _) (.cells #[.int .u8 k, .string nm, .string tx, .int .i64 n, .int .i64 m] 33)).trans (b1.mono (by simp)))
    have c2 : w1.cell? ⟨w.heap.size, 2, none⟩ = some (.string tx) := by rw [b1.cell (p := ⟨w.heap.size, 2, none⟩) (by simp)]; simp
    have c3 : w1.cell? ⟨w.heap.size, 3, none⟩ = some (.int .i64 n) := by rw [b1.cell (p := ⟨w.heap.size, 3, none⟩) (by simp)]; simp
    clear b1
    go_wp2_with fail
    go_ret
    exact ⟨ret_bool HB.out.symm, B1.out⟩
  | true =>
    by_cases h : n = 0
    · have HB := Lib.hid (show r = true by rw [hr, h]; rfl)
      subst h
      clear hr
      go_enter Tryd.func30, Tryd.ntmps30
      go_wp2_with fail
      with_reducible refine (HC.out _).mono ?_
      rintro e w1 ⟨rfl, b1⟩
      have B1 := Lib.hid (((Below.refl w.heap.size w).alloc (Nat.le_refl _) (.cells #[.int .u8 k, .string nm, .string tx, .int .i64 0, .int .i64 m] 33)).trans (b1.mono (by simp)))
      have c2 : w1.cell? ⟨w.heap.size, 2, none⟩ = some (.string tx) := by rw [b1.cell (p := ⟨w.heap.size, 2, none⟩) (by simp)]; simp
      have c3 : w1.cell? ⟨w.heap.size, 3, none⟩ = some (.int .i64 0) := by rw [b1.cell (p := ⟨w.heap.size, 3, none⟩) (by simp)]; simp
      clear b1
      go_wp2_with fail
      go_ret
      exact ⟨ret_bool HB.out.symm, B1.out⟩
    · have g : (n == 0) = false := by rw [beq_eq_false_iff_ne]; exact h
      by_cases h1 : n = 1
      · have HB := Lib.hid (show r = true by rw [hr, h1]; rfl)
        subst h1
        clear hr h g
        go_enter Tryd.func30, Tryd.ntmps30
        go_wp2_with fail
        with_reducible refine (HC.out _).mono ?_
        rintro e w1 ⟨rfl, b1⟩
        have B1 := Lib.hid (((Below.refl w.heap.size w).alloc (Nat.le_refl _) (.cells #[.int .u8 k, .string nm, .string tx, .int .i64 1, .int .i64 m] 33)).trans (b1.mono (by simp)))
        have c2 : w1.cell? ⟨w.heap.size, 2, none⟩ = some (.string tx) := by rw [b1.cell (p := ⟨w.heap.size, 2, none⟩) (by simp)]; simp
        have c3 : w1.cell? ⟨w.heap.size, 3, none⟩ = some (.int .i64 1) := by rw [b1.cell (p := ⟨w.heap.size, 3, none⟩) (by simp)]; simp
        clear b1
        go_wp2_with fail
        go_ret
        exact ⟨ret_bool HB.out.symm, B1.out⟩
      · have HB := Lib.hid (show r = false by rw [hr, decide_eq_false h, decide_eq_false h1]; rfl)
        have g1 : (n == 1) = false := by rw [beq_eq_false_iff_ne]; exact h1
        clear hr h h1
        go_enter Tryd.func30, Tryd.ntmps30
        go_wp2_with fail
        with_reducible refine (HC.out _).mono ?_
        rintro e w1 ⟨rfl, b1⟩
        have B1 := Lib.hid (((Below.refl w.heap.size w).alloc (Nat.le_refl _) (.cells #[.int .u8 k, .string nm, .string tx, .int .i64 n, .int .i64 m] 33)).trans (b1.mono (by simp)))
        have c2 : w1.cell? ⟨w.heap.size, 2, none⟩ = some (.string tx) := by rw [b1.cell (p := ⟨w.heap.size, 2, none⟩) (by simp)]; simp
        have c3 : w1.cell? ⟨w.heap.size, 3, none⟩ = some (.int .i64 n) := by rw [b1.cell (p := ⟨w.heap.size, 3, none⟩) (by simp)]; simp
        clear b1
        go_wp2_with fail
        go_ret
        exact ⟨ret_bool HB.out.symm, B1.out⟩
set_option maxRecDepth 20000 in
theorem fit3 (c : CR) (w : World) (hs : c.tx.size ≤ 1000000) : Calls Tryd.prog 31 #[cv c] w fun e w' => e = .returned (.bool ((decide (c.n = 0) && decide (c.m = 0)) && (ckB c.tx))) ∧ Below w.heap.size w w' := by
  obtain ⟨r, hr⟩ : ∃ r, r = ((decide (c.n = 0) && decide (c.m = 0)) && (ckB c.tx)) := ⟨_, rfl⟩
  rw [← hr]
  obtain ⟨q, hq⟩ : ∃ q, q = (decide (c.n = 0) && decide (c.m = 0)) := ⟨_, rfl⟩
  have HC := Lib.hid (only_any c)
  rw [← hq] at HC hr
  clear hq
  obtain ⟨k, nm, tx, n, m⟩ := c
  unfold cv at HC ⊢
  simp only [] at hr hs HC ⊢
  cases q with
  | false =>
    have HB := Lib.hid (show r = false by rw [hr]; rfl)
    clear hr
    go_enter Tryd.func31, Tryd.ntmps31
    go_wp2_with fail
    with_reducible refine (HC.out _).mono ?_
    rintro e w1 ⟨rfl, b1⟩
    have B1 := Lib.hid (((Below.refl w.heap.size w).alloc (Nat.le_refl _) (.cells #[.int .u8 k, .string nm, .string tx, .int .i64 n, .int .i64 m] 33)).trans (b1.mono (by simp)))
    have c2 : w1.cell? ⟨w.heap.size, 2, none⟩ = some (.string tx) := by rw [b1.cell (p := ⟨w.heap.size, 2, none⟩) (by simp)]; simp
    have c3 : w1.cell? ⟨w.heap.size, 3, none⟩ = some (.int .i64 n) := by rw [b1.cell (p := ⟨w.heap.size, 3, none⟩) (by simp)]; simp
    clear b1
    go_wp2_with fail
    go_ret
    exact ⟨ret_bool HB.out.symm, B1.out⟩
  | true =>
    have HK := Lib.hid (fun W => check_any tx W (by unfold maxLen; omega))
    obtain ⟨z, hz⟩ : ∃ z, z = ckE tx := ⟨_, rfl⟩
    rw [← hz] at HK
    cases hk : ckB tx with
    | true =>
      have hz0 := hz.trans (ck_yes hk)
      subst hz0
      have HB := Lib.hid (show r = true by rw [hr, hk]; rfl)
      clear hr hk hz hs
      go_enter Tryd.func31, Tryd.ntmps31
      go_wp2_with fail
      with_reducible refine (HC.out _).mono ?_
      rintro e w1 ⟨rfl, b1⟩
      have B1 := Lib.hid (((Below.refl w.heap.size w).alloc (Nat.le_refl _) (.cells #[.int .u8 k, .string nm, .string tx, .int .i64 n, .int .i64 m] 33)).trans (b1.mono (by simp)))
      have c2 : w1.cell? ⟨w.heap.size, 2, none⟩ = some (.string tx) := by rw [b1.cell (p := ⟨w.heap.size, 2, none⟩) (by simp)]; simp
      have c3 : w1.cell? ⟨w.heap.size, 3, none⟩ = some (.int .i64 n) := by rw [b1.cell (p := ⟨w.heap.size, 3, none⟩) (by simp)]; simp
      clear b1
      go_wp2_with fail
      with_reducible refine (HK.out w1).mono ?_
      rintro e w2 ⟨rfl, b2⟩
      have B2 := Lib.hid (B1.out.trans (b2.mono B1.out.size))
      clear b2 B1
      go_wp2_with fail
      go_ret
      exact ⟨ret_bool HB.out.symm, B2.out⟩
    | false =>
      have g : (z == 0) = false := by rw [beq_eq_false_iff_ne, hz]; exact ck_no hk
      have HB := Lib.hid (show r = false by rw [hr, hk]; rfl)
      clear hr hk hz hs
      go_enter Tryd.func31, Tryd.ntmps31
      go_wp2_with fail
      with_reducible refine (HC.out _).mono ?_
      rintro e w1 ⟨rfl, b1⟩
      have B1 := Lib.hid (((Below.refl w.heap.size w).alloc (Nat.le_refl _) (.cells #[.int .u8 k, .string nm, .string tx, .int .i64 n, .int .i64 m] 33)).trans (b1.mono (by simp)))
      have c2 : w1.cell? ⟨w.heap.size, 2, none⟩ = some (.string tx) := by rw [b1.cell (p := ⟨w.heap.size, 2, none⟩) (by simp)]; simp
      have c3 : w1.cell? ⟨w.heap.size, 3, none⟩ = some (.int .i64 n) := by rw [b1.cell (p := ⟨w.heap.size, 3, none⟩) (by simp)]; simp
      clear b1
      go_wp2_with fail
      with_reducible refine (HK.out w1).mono ?_
      rintro e w2 ⟨rfl, b2⟩
      have B2 := Lib.hid (B1.out.trans (b2.mono B1.out.size))
      clear b2 B1
      go_wp2_with fail
      go_ret
      exact ⟨ret_bool HB.out.symm, B2.out⟩
set_option maxRecDepth 20000 in
theorem fit4 (c : CR) (w : World) (hs : c.tx.size ≤ 1000000) : Calls Tryd.prog 34 #[cv c] w fun e w' => e = .returned (.bool ((decide (c.n = 0) && decide (c.m = 0)) && (nmB c.tx))) ∧ Below w.heap.size w w' := by
  obtain ⟨r, hr⟩ : ∃ r, r = ((decide (c.n = 0) && decide (c.m = 0)) && (nmB c.tx)) := ⟨_, rfl⟩
  rw [← hr]
  obtain ⟨q, hq⟩ : ∃ q, q = (decide (c.n = 0) && decide (c.m = 0)) := ⟨_, rfl⟩
  have HC := Lib.hid (only_any c)
  rw [← hq] at HC hr
  clear hq
  obtain ⟨k, nm, tx, n, m⟩ := c
  unfold cv at HC ⊢
  simp only [] at hr hs HC ⊢
  cases q with
  | false =>
    have HB := Lib.hid (show r = false by rw [hr]; rfl)
    clear hr
    go_enter Tryd.func34, Tryd.ntmps34
    go_wp2_with fail
    with_reducible refine (HC.out _).mono ?_
    rintro e w1 ⟨rfl, b1⟩
    have B1 := Lib.hid (((Below.refl w.heap.size w).alloc (Nat.le_refl _) (.cells #[.int .u8 k, .string nm, .string tx, .int .i64 n, .int .i64 m] 33)).trans (b1.mono (by simp)))
    have c2 : w1.cell? ⟨w.heap.size, 2, none⟩ = some (.string tx) := by rw [b1.cell (p := ⟨w.heap.size, 2, none⟩) (by simp)]; simp
    have c3 : w1.cell? ⟨w.heap.size, 3, none⟩ = some (.int .i64 n) := by rw [b1.cell (p := ⟨w.heap.size, 3, none⟩) (by simp)]; simp
    clear b1
    go_wp2_with fail
    go_ret
    exact ⟨ret_bool HB.out.symm, B1.out⟩
  | true =>
    have HK := Lib.hid (fun W => name_any tx W hs)
    obtain ⟨z, hz⟩ : ∃ z, z = nmB tx := ⟨_, rfl⟩
    rw [← hz] at HK
    have HB := Lib.hid (show r = z by rw [hr, hz]; rfl)
    clear hr hz hs
    go_enter Tryd.func34, Tryd.ntmps34
    go_wp2_with fail
    with_reducible refine (HC.out _).mono ?_
    rintro e w1 ⟨rfl, b1⟩
    have B1 := Lib.hid (((Below.refl w.heap.size w).alloc (Nat.le_refl _) (.cells #[.int .u8 k, .string nm, .string tx, .int .i64 n, .int .i64 m] 33)).trans (b1.mono (by simp)))
    have c2 : w1.cell? ⟨w.heap.size, 2, none⟩ = some (.string tx) := by rw [b1.cell (p := ⟨w.heap.size, 2, none⟩) (by simp)]; simp
    have c3 : w1.cell? ⟨w.heap.size, 3, none⟩ = some (.int .i64 n) := by rw [b1.cell (p := ⟨w.heap.size, 3, none⟩) (by simp)]; simp
    clear b1
    go_wp2_with fail
    have K := HK.out w1
    with_reducible refine K.mono ?_
    rintro e w2 ⟨rfl, hq1⟩
    have hq2 := hq1.symm
    clear hq1 K
    subst hq2
    cases z <;> (go_wp2_with fail; go_ret; exact ⟨ret_bool HB.out.symm, B1.out⟩)
set_option maxRecDepth 20000 in
theorem fit5 (c : CR) (w : World) (hs : c.tx.size ≤ 1000000) : Calls Tryd.prog 36 #[cv c] w fun e w' => e = .returned (.bool ((decide (c.n = 0) && decide (c.m = 0)) && (nmB c.tx))) ∧ Below w.heap.size w w' := by
  obtain ⟨r, hr⟩ : ∃ r, r = ((decide (c.n = 0) && decide (c.m = 0)) && (nmB c.tx)) := ⟨_, rfl⟩
  rw [← hr]
  obtain ⟨q, hq⟩ : ∃ q, q = (decide (c.n = 0) && decide (c.m = 0)) := ⟨_, rfl⟩
  have HC := Lib.hid (only_any c)
  rw [← hq] at HC hr
  clear hq
  obtain ⟨k, nm, tx, n, m⟩ := c
  unfold cv at HC ⊢
  simp only [] at hr hs HC ⊢
  cases q with
  | false =>
    have HB := Lib.hid (show r = false by rw [hr]; rfl)
    clear hr
    go_enter Tryd.func36, Tryd.ntmps36
    go_wp2_with fail
    with_reducible refine (HC.out _).mono ?_
    rintro e w1 ⟨rfl, b1⟩
    have B1 := Lib.hid (((Below.refl w.heap.size w).alloc (Nat.le_refl _) (.cells #[.int .u8 k, .string nm, .string tx, .int .i64 n, .int .i64 m] 33)).trans (b1.mono (by simp)))
    have c2 : w1.cell? ⟨w.heap.size, 2, none⟩ = some (.string tx) := by rw [b1.cell (p := ⟨w.heap.size, 2, none⟩) (by simp)]; simp
    have c3 : w1.cell? ⟨w.heap.size, 3, none⟩ = some (.int .i64 n) := by rw [b1.cell (p := ⟨w.heap.size, 3, none⟩) (by simp)]; simp
    clear b1
    go_wp2_with fail
    go_ret
    exact ⟨ret_bool HB.out.symm, B1.out⟩
  | true =>
    have HK := Lib.hid (fun W => name_any tx W hs)
    obtain ⟨z, hz⟩ : ∃ z, z = nmB tx := ⟨_, rfl⟩
    rw [← hz] at HK
    have HB := Lib.hid (show r = z by rw [hr, hz]; rfl)
    clear hr hz hs
    go_enter Tryd.func36, Tryd.ntmps36
    go_wp2_with fail
    with_reducible refine (HC.out _).mono ?_
    rintro e w1 ⟨rfl, b1⟩
    have B1 := Lib.hid (((Below.refl w.heap.size w).alloc (Nat.le_refl _) (.cells #[.int .u8 k, .string nm, .string tx, .int .i64 n, .int .i64 m] 33)).trans (b1.mono (by simp)))
    have c2 : w1.cell? ⟨w.heap.size, 2, none⟩ = some (.string tx) := by rw [b1.cell (p := ⟨w.heap.size, 2, none⟩) (by simp)]; simp
    have c3 : w1.cell? ⟨w.heap.size, 3, none⟩ = some (.int .i64 n) := by rw [b1.cell (p := ⟨w.heap.size, 3, none⟩) (by simp)]; simp
    clear b1
    go_wp2_with fail
    have K := HK.out w1
    with_reducible refine K.mono ?_
    rintro e w2 ⟨rfl, hq1⟩
    have hq2 := hq1.symm
    clear hq1 K
    subst hq2
    cases z <;> (go_wp2_with fail; go_ret; exact ⟨ret_bool HB.out.symm, B1.out⟩)
/-- The function that checks a kind. -/
def fo : Nat → Nat
  | 0 => 28
  | 1 => 30
  | 2 => 29
  | 3 => 31
  | 4 => 34
  | 5 => 36
  | _ => 37
theorem fit_any (c : CR) (w : World) (hk : c.k < 8) (hs : c.tx.size ≤ 1000000) : Calls Tryd.prog (fo c.k) #[cv c] w fun e w' => e = .returned (.bool (oneP c)) ∧ Below w.heap.size w w' := by
  have C0 := fit0 c w
  have C1 := fit1 c w
  have C2 := bare_any c w
  have C3 := fit3 c w hs
  have C4 := fit4 c w hs
  have C5 := fit5 c w hs
  have C6 := head_any c w
  unfold oneP
  rcases (by omega : c.k = 0 ∨ c.k = 1 ∨ c.k = 2 ∨ c.k = 3 ∨ c.k = 4 ∨ c.k = 5 ∨ c.k = 6 ∨ c.k = 7) with e | e | e | e | e | e | e | e <;> rw [e]
  · exact C0
  · exact C1
  · exact C2
  · exact C3
  · exact C4
  · exact C5
  · exact C6
  · exact C6
/-- The array of the checks. -/
def rulesA : Array Value := #[.func (.func (fo 0)) #[] #[], .func (.func (fo 1)) #[] #[], .func (.func (fo 2)) #[] #[], .func (.func (fo 3)) #[] #[], .func (.func (fo 4)) #[] #[], .func (.func (fo 5)) #[] #[], .func (.func (fo 6)) #[] #[], .func (.func (fo 7)) #[] #[]]
end Go.Proofs.YtpbbmnefcfllmaaDoor
