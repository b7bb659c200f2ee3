/- Layer 10: what a Twin is made in: boxes and rows of the call's own. -/
import Derived.Test.YthaliiffgkcahaaS8
namespace Go.Proofs.Ythaliiffgkcahaa
open Go.RowKit Go.Maps
def Box3 (w : World) (q : Nat) (x0 x1 x2 : Value) : Prop := w.heap[q]? = some (.cells #[x0, x1, x2] 26)
theorem Box3.lt {w : World} {q : Nat} {x0 x1 x2 : Value} (h : Box3 w q x0 x1 x2) : q < w.heap.size := (Array.getElem?_eq_some_iff.1 h).1
theorem Box3.up {w w' : World} {q : Nat} {x0 x1 x2 : Value} (h : Box3 w q x0 x1 x2) (k : Below w.heap.size w w') : Box3 w' q x0 x1 x2 := by
  unfold Box3 at h ⊢
  rw [k.block q (Array.getElem?_eq_some_iff.1 h).1]; exact h
theorem Box3.c0 {w : World} {q : Nat} {x0 x1 x2 : Value} (h : Box3 w q x0 x1 x2) : w.cell? ⟨q, 0, none⟩ = some x0 := by unfold Box3 at h; simp [World.cell?, h]
theorem Box3.c1 {w : World} {q : Nat} {x0 x1 x2 : Value} (h : Box3 w q x0 x1 x2) : w.cell? ⟨q, 1, none⟩ = some x1 := by unfold Box3 at h; simp [World.cell?, h]
theorem Box3.c2 {w : World} {q : Nat} {x0 x1 x2 : Value} (h : Box3 w q x0 x1 x2) : w.cell? ⟨q, 2, none⟩ = some x2 := by unfold Box3 at h; simp [World.cell?, h]
theorem Box3.fz {w : World} {q : Nat} {x0 x1 x2 : Value} (h : Box3 w q x0 x1 x2) (i : Nat) : w.frozen? ⟨q, i, none⟩ = false := by unfold Box3 at h; simp [World.frozen?, h]
theorem set_heap (w : World) (q k : Nat) (v : Value) (cs : Array Value) (t : TypeId) (h : w.heap[q]? = some (.cells cs t)) : (w.setCell ⟨q, k, none⟩ v).heap[q]? = some (.cells (cs.setIfInBounds k v) t) := by
  have hq := (Array.getElem?_eq_some_iff.1 h).1
  have e : w.heap[q] = .cells cs t := by
    rw [Array.getElem?_eq_getElem hq] at h
    exact Option.some.inj h
  simp [World.setCell, hq]
  rw [Array.getElem_modify_self, e]
theorem Box3.set0 {w : World} {q : Nat} {x0 x1 x2 : Value} (h : Box3 w q x0 x1 x2) (v : Value) : Box3 (w.setCell ⟨q, 0, none⟩ v) q v x1 x2 := by
  have := set_heap w q 0 v _ _ h
  simpa [Box3] using this
theorem Box3.set1 {w : World} {q : Nat} {x0 x1 x2 : Value} (h : Box3 w q x0 x1 x2) (v : Value) : Box3 (w.setCell ⟨q, 1, none⟩ v) q x0 v x2 := by
  have := set_heap w q 1 v _ _ h
  simpa [Box3] using this
theorem Box3.set2 {w : World} {q : Nat} {x0 x1 x2 : Value} (h : Box3 w q x0 x1 x2) (v : Value) : Box3 (w.setCell ⟨q, 2, none⟩ v) q x0 x1 v := by
  have := set_heap w q 2 v _ _ h
  simpa [Box3] using this
theorem Box3.other {w : World} {q p k : Nat} {x0 x1 x2 : Value} (h : Box3 w q x0 x1 x2) (hne : p ≠ q) (v : Value) : Box3 (w.setCell ⟨p, k, none⟩ v) q x0 x1 x2 := by
  unfold Box3 at h ⊢
  rw [RowKit.Below.heap_setCell _ _ _ _ (fun e => hne e.symm)]; exact h
theorem Box3.grown {w w' : World} {B n e : Nat} {v : Value} {xs : List Value} {q : Nat} {x0 x1 x2 : Value} (h : Box3 w q x0 x1 x2) (ho : w.ownsRow B e 1 v n xs) (he : e ≠ 26) (hg : w.grownBy w' v.ownBlock) : Box3 w' q x0 x1 x2 := by
  unfold Box3 at h ⊢
  rw [hg.block q (Array.getElem?_eq_some_iff.1 h).1 ?_]; exact h
  rcases ho.2 with ⟨rfl, _⟩ | ⟨g', cap, cur, rfl, _, hgg, _⟩
  · simp [Value.ownBlock]
  · intro ee
    simp only [Value.ownBlock, Option.some.injEq] at ee
    subst ee
    rw [hgg] at h
    simp only [Option.some.injEq, Obj.cells.injEq] at h
    exact he h.2.1
theorem own_set {w : World} {B n e q k : Nat} {v u : Value} {xs : List Value} {x0 x1 x2 : Value} (ho : w.ownsRow B e 1 v n xs) (he : e ≠ 26) (h : Box3 w q x0 x1 x2) : (w.setCell ⟨q, k, none⟩ u).ownsRow B e 1 v n xs := by
  refine World.ownsRow.kept ho (grown_set w q k u) ?_
  rcases ho.2 with ⟨rfl, _⟩ | ⟨g', cap, cur, rfl, _, hgg, _⟩
  · exact .inl rfl
  · refine .inr fun ee => ?_
    simp only [Value.ownBlock, Option.some.injEq] at ee
    subst ee
    unfold Box3 at h
    rw [hgg] at h
    simp only [Option.some.injEq, Obj.cells.injEq] at h
    exact he h.2.1
/-- Rows of different kinds of elements stay apart. -/
theorem own_kept {w w' : World} {B B2 n m e f : Nat} {v u : Value} {xs ys : List Value} (h : w.ownsRow B e 1 v n xs) (hu : w.ownsRow B2 f 1 u m ys) (hef : e ≠ f) (hg : w.grownBy w' u.ownBlock) : w'.ownsRow B e 1 v n xs := by
  refine World.ownsRow.kept h hg ?_
  rcases h.2 with ⟨rfl, _⟩ | ⟨q, cap, cur, rfl, _, h1, _⟩
  · exact .inl rfl
  · refine .inr fun ee => ?_
    rcases hu.2 with ⟨rfl, _⟩ | ⟨q', cap', cur', rfl, _, h2, _⟩
    · cases ee
    · simp only [Value.ownBlock, Option.some.injEq] at ee
      subst ee
      rw [h1] at h2
      simp only [Option.some.injEq, Obj.cells.injEq] at h2
      exact hef h2.2.1
theorem below_nil {w w' : World} (hg : w.grownBy w' (Value.slice none 0 0).ownBlock) : Below w.heap.size w w' := (Below.refl w.heap.size w).grown hg (Nat.le_refl _) (fun q hq => by simp [Value.ownBlock] at hq)
/-- What stands at a slice, element by element. -/
def Src (w : World) (ap : Option Addr) (m c : Nat) (news : List Value) : Prop := news.length = m ∧ (ap = none → m = 0 ∧ c = 0) ∧ (∀ ad, ap = some ad → ∀ j u, news[j]? = some u → w.cell? (ad.add j) = some u) ∧ ∀ u ∈ news, u.oneCell' = true
theorem Src.up {w w' : World} {ap : Option Addr} {m c : Nat} {news : List Value} (h : Src w ap m c news) (k : Below w.heap.size w w') : Src w' ap m c news :=
  ⟨h.1, h.2.1, fun ad e j u hj => cell_up (h.2.2.1 ad e j u hj) k, h.2.2.2⟩
theorem src_ints {w : World} {ap : Option Addr} {c : Nat} {L : List Int} (h : IV w ap L) (hn : ap = none → L.length = 0 ∧ c = 0) : Src w ap L.length c (rI L) := by
  refine ⟨rI_len L, hn, fun ad e j u hj => ?_, rI_one L⟩
  have hjl : j < L.length := by rw [← rI_len L]; exact (List.getElem?_eq_some_iff.1 hj).1
  subst e
  obtain ⟨b, off, e, _, hc⟩ := h j hjl
  simp only [Option.some.injEq] at e
  subst e
  rw [rI_at L j hjl] at hj
  simp only [Option.some.injEq] at hj
  rw [← hj, Addr.add_lit]
  exact hc
theorem src_bools {w : World} {ap : Option Addr} {c : Nat} {L : List Bool} (h : BV w ap L) (hn : ap = none → L.length = 0 ∧ c = 0) : Src w ap L.length c (rB L) := by
  refine ⟨rB_len L, hn, fun ad e j u hj => ?_, rB_one L⟩
  have hjl : j < L.length := by rw [← rB_len L]; exact (List.getElem?_eq_some_iff.1 hj).1
  subst e
  obtain ⟨b, off, e, _, hc⟩ := h j hjl
  simp only [Option.some.injEq] at e
  subst e
  rw [rB_at L j hjl] at hj
  simp only [Option.some.injEq] at hj
  rw [← hj, Addr.add_lit]
  exact hc
theorem run_app {w : World} (B : Nat) (t ty e : TypeId) (i : TypeInfo) (z : Value) (bytes : Nat) (ht : Try.prog.underlying t = some (.slice e)) (hi : Try.prog.info? e = some i) (hz : i.zero = some z) (hsize : i.size = 1) (hby : i.bytes = bytes) (hzs : z.cells.size = 1)
    (v : Value) (n : Nat) (xs : List Value) (hown : w.ownsRow B e 1 v n xs) (ap : Option Addr) (m c : Nat) (news : List Value) (hs : Src w ap m c news) (h63 : n + m ≤ maxLen) (hb : (n + m) * bytes ≤ 140737488355328) (hB : B ≤ w.heap.size) :
    ∃ v' w', (Builtin.append_ #[t, t] ty #[v, .slice ap m c]).run Try.prog w = .ok v' w' ∧ w'.ownsRow B e 1 v' (n + m) (xs ++ news) ∧ w.grownBy w' v.ownBlock := by
  obtain ⟨h1, h2, h3, h4⟩ := hs
  cases ap with
  | none =>
    obtain ⟨rfl, rfl⟩ := h2 rfl
    have : news = [] := List.length_eq_zero_iff.1 h1
    subst this
    exact ⟨v, w, run_append_owned_none (P := Try.prog) w B t ty e i 1 ht hi v _ _ hown, by simpa using hown, grown_refl _ _⟩
  | some ad =>
    obtain ⟨v', w', hrun, r1, r2, _⟩ := run_append_own (P := Try.prog) (w := w) B t ty e i z 1 bytes ht hi hz hsize hby hzs (by decide) v n xs hown ad m c news (by rw [h1]; omega) (h3 ad rfl) h4 h63 hb hB
    exact ⟨v', w', hrun, r1, r2⟩
theorem step_app {ops : Array Oper} {o : Oper} {a : Act} {w : World} {K : Act → World → Prop} {Q : Exit → Act → World → Prop} {E : Prop}
    (hg : o.guard = none) (s x : Operand) (t : TypeId) (hop : o.op = Op.call { callee := Callee.builtin Builtin.append, args := #[s, x], argTypes := #[t, t] })
    (B : Nat) (e : TypeId) (i : TypeInfo) (z : Value) (bytes : Nat) (ht : Try.prog.underlying t = some (.slice e)) (hi : Try.prog.info? e = some i) (hz : i.zero = some z) (hsize : i.size = 1) (hby : i.bytes = bytes) (hzs : z.cells.size = 1)
    (v : Value) (n : Nat) (xs : List Value) (hs : a.eval s = v) (hown : w.ownsRow B e 1 v n xs) (ap : Option Addr) (m c : Nat) (news : List Value) (hx : a.eval x = .slice ap m c) (hsr : Src w ap m c news) (h63 : n + m ≤ maxLen) (hb : (n + m) * bytes ≤ 140737488355328) (hB : B ≤ w.heap.size)
    (hK : ∀ v' w', w'.ownsRow B e 1 v' (n + m) (xs ++ news) → w.grownBy w' v.ownBlock → K (a.put o.dst v') w') :
    if Region.wanted o (yielded ops a.tmps) = true then Oper.wp Try.prog o a w K Q else E := by
  have hw : Region.wanted o (yielded ops a.tmps) = true := by simp [Region.wanted, hg]
  rw [if_pos hw]
  obtain ⟨v', w', hrun, r1, r2⟩ := run_app (w := w) B t o.type e i z bytes ht hi hz hsize hby hzs v n xs hown ap m c news hsr h63 hb hB
  unfold Oper.wp
  simp [execOp, hop, resolve, invoke, builtin, hs, hx, hrun, Result.andThen]
  exact hK v' w' r1 r2
theorem wpList_app {w : World} {ops : Array Oper} {rest : List Oper} {o : Oper} {a : Act} {Q : Exit → Act → World → Prop} (hgd : o.guard = none) (s x : Operand) (t : TypeId)
    (ho : o.op = .call { callee := .builtin .append, args := #[s, x], argTypes := #[t, t] })
    (B : Nat) (e : TypeId) (i : TypeInfo) (z : Value) (bytes : Nat) (ht : Try.prog.underlying t = some (.slice e)) (hi : Try.prog.info? e = some i) (hz : i.zero = some z) (hsize : i.size = 1) (hby : i.bytes = bytes) (hzs : z.cells.size = 1)
    (v : Value) (n : Nat) (xs : List Value) (hs : a.eval s = v) (hown : w.ownsRow B e 1 v n xs) (ap : Option Addr) (m c : Nat) (news : List Value) (hx : a.eval x = .slice ap m c) (hsr : Src w ap m c news) (h63 : n + m ≤ maxLen) (hb : (n + m) * bytes ≤ 140737488355328) (hB : B ≤ w.heap.size)
    (h : ∀ v' w', w'.ownsRow B e 1 v' (n + m) (xs ++ news) → w.grownBy w' v.ownBlock → wpList Try.prog ops Q rest (a.put o.dst v') w') : wpList Try.prog ops Q (o :: rest) a w := by
  obtain ⟨h1, h2, h3, h4⟩ := hsr
  cases ap with
  | none =>
    obtain ⟨rfl, rfl⟩ := h2 rfl
    have : news = [] := List.length_eq_zero_iff.1 h1
    subst this
    exact wpList_append_own_none hgd s x t ho B e i 1 ht hi v n xs hs hown hx (h v w (by simpa using hown) (grown_refl _ _))
  | some ad =>
    exact wpList_append_own _ hgd s x t ho B e i z 1 bytes ht hi hz hsize hby hzs (by decide) v n xs hs hown ad m c news hx (by rw [h1]; omega) (h3 ad rfl) h4 h63 hb hB (fun v' w' h1 h2 _ => h v' w' h1 h2)
theorem infoB : ∃ i, Try.prog.info? 4 = some i ∧ i.zero = some (.bool false) ∧ i.size = 1 ∧ i.bytes = 1 := by
  have h := Try.typeInfo4 default
  unfold typeInfo at h
  cases hq : Try.prog.info? 4 with
  | none => simp [hq] at h
  | some i =>
    simp [hq] at h
    exact ⟨i, rfl, by rw [h]; rfl, by rw [h]; rfl, by rw [h]; rfl⟩
theorem infoS : ∃ i, Try.prog.info? 22 = some i ∧ i.zero = some (.slice none 0 0) ∧ i.size = 1 ∧ i.bytes = 24 := by
  have h := Try.typeInfo22 default
  unfold typeInfo at h
  cases hq : Try.prog.info? 22 with
  | none => simp [hq] at h
  | some i =>
    simp [hq] at h
    exact ⟨i, rfl, by rw [h]; rfl, by rw [h]; rfl, by rw [h]; rfl⟩
def OwnB (w : World) (B : Nat) (v : Value) (L : List Bool) : Prop := w.ownsRow B 4 1 v L.length (rB L)
def OwnS (w : World) (B : Nat) (u : Value) (vs : List Value) : Prop := w.ownsRow B 22 1 u vs.length vs
theorem own_shape {w : World} {B e : Nat} {v : Value} {n : Nat} {xs : List Value} (h : w.ownsRow B e 1 v n xs) : ∃ ad cap, v = .slice ad n cap ∧ n ≤ cap ∧ cap ≤ maxLen ∧ (∀ j, j < n → ∃ q, ad = some ⟨q, 0, none⟩ ∧ q < w.heap.size ∧ w.cell? ⟨q, j, none⟩ = xs[j]?) ∧ (ad = none → n = 0 ∧ cap = 0) := by
  have hl : xs.length = n := by have := h.1; simpa using this
  rcases h.2 with ⟨rfl, hn⟩ | ⟨q, cap, cur, rfl, hg, hgg, h1, h2, h3, h4⟩
  · subst hn
    exact ⟨none, 0, rfl, Nat.le_refl _, Nat.zero_le _, fun j hj => absurd hj (Nat.not_lt_zero j), fun _ => ⟨rfl, rfl⟩⟩
  · exact ⟨some ⟨q, 0, none⟩, cap, rfl, h1, h2, fun j hj => ⟨q, rfl, (Array.getElem?_eq_some_iff.1 hgg).1, h.cellAt j (by omega)⟩, fun e => by cases e⟩
theorem ownI_shape {w : World} {B : Nat} {v : Value} {L : List Int} (h : OwnI w B v L) : ∃ ad cap, v = .slice ad L.length cap ∧ L.length ≤ cap ∧ cap ≤ maxLen ∧ IV w ad L ∧ (ad = none → L.length = 0 ∧ cap = 0) := by
  obtain ⟨ad, cap, e, h1, h2, h3, h4⟩ := own_shape h
  refine ⟨ad, cap, e, h1, h2, fun i hi => ?_, h4⟩
  obtain ⟨q, e1, e2, e3⟩ := h3 i hi
  exact ⟨q, 0, e1, e2, by rw [Nat.zero_add, e3]; exact rI_at L i hi⟩
theorem ownB_shape {w : World} {B : Nat} {v : Value} {L : List Bool} (h : OwnB w B v L) : ∃ ad cap, v = .slice ad L.length cap ∧ L.length ≤ cap ∧ cap ≤ maxLen ∧ BV w ad L ∧ (ad = none → L.length = 0 ∧ cap = 0) := by
  obtain ⟨ad, cap, e, h1, h2, h3, h4⟩ := own_shape h
  refine ⟨ad, cap, e, h1, h2, fun i hi => ?_, h4⟩
  obtain ⟨q, e1, e2, e3⟩ := h3 i hi
  exact ⟨q, 0, e1, e2, by rw [Nat.zero_add, e3]; exact rB_at L i hi⟩
/-- The rows ahead, each in memory of its own. -/
def Twins (w : World) (B : Nat) (S : List (List Int)) (vs : List Value) : Prop := vs.length ≤ S.length ∧ ∀ j, j < vs.length → OwnI w B (vs.getD j undef) (gS S j)
theorem Twins.below {w w' : World} {B : Nat} {S : List (List Int)} {vs : List Value} (h : Twins w B S vs) (k : Below w.heap.size w w') : Twins w' B S vs := ⟨h.1, fun j hj => own_below (h.2 j hj) k⟩
theorem Twins.grown {w w' : World} {B B2 : Nat} {S : List (List Int)} {vs ws : List Value} {u : Value} (h : Twins w B S vs) (hu : OwnS w B2 u ws) (hg : w.grownBy w' u.ownBlock) : Twins w' B S vs := ⟨h.1, fun j hj => own_kept (h.2 j hj) hu (by decide) hg⟩
theorem Twins.set {w : World} {B q k : Nat} {S : List (List Int)} {vs : List Value} {u x0 x1 x2 : Value} (h : Twins w B S vs) (hb : Box3 w q x0 x1 x2) : Twins (w.setCell ⟨q, k, none⟩ u) B S vs := ⟨h.1, fun j hj => own_set (h.2 j hj) (by decide) hb⟩
theorem Twins.snoc {w : World} {B : Nat} {S : List (List Int)} {vs : List Value} {v : Value} (h : Twins w B S vs) (hl : vs.length < S.length) (hv : OwnI w B v (gS S vs.length)) : Twins w B S (vs ++ [v]) := by
  refine ⟨by simp; omega, fun j hj => ?_⟩
  by_cases e : j = vs.length
  · subst e
    rw [List.getD_eq_getElem?_getD, List.getElem?_append_right (Nat.le_refl _)]
    simpa using hv
  · have hj' : j < vs.length := by simp at hj; omega
    rw [List.getD_eq_getElem?_getD, List.getElem?_append_left hj', ← List.getD_eq_getElem?_getD]
    exact h.2 j hj'
theorem twins_shape {w : World} {B : Nat} {u : Value} {S : List (List Int)} {vs : List Value} (h : Twins w B S vs) (hl : vs.length = S.length) (ho : OwnS w B u vs) : ∃ ad cap, u = .slice ad S.length cap ∧ S.length ≤ cap ∧ cap ≤ maxLen ∧ SV w ad S ∧ (ad = none → S.length = 0 ∧ cap = 0) := by
  obtain ⟨ad, cap, e, h1, h2, h3, h4⟩ := own_shape ho
  rw [hl] at e h1 h4
  refine ⟨ad, cap, e, h1, h2, fun i hi => ?_, h4⟩
  obtain ⟨q, e1, e2, e3⟩ := h3 i (by omega)
  obtain ⟨ai, ci, f1, f2, f3, f4, f5⟩ := ownI_shape (h.2 i (by omega))
  refine ⟨q, 0, e1, e2, _, ?_, ai, ci, rfl, f2, f3, f4, f5⟩
  rw [Nat.zero_add, e3, List.getElem?_eq_getElem (by omega)]
  rw [List.getD_eq_getElem?_getD, List.getElem?_eq_getElem (by omega)] at f1
  exact congrArg some (by simpa using f1)
/-- What holds while a twin is made. -/
structure Tw (w W : World) (y0 y1 y2 z0 z1 z2 x0 x1 x2 : Value) : Prop where
  bl : Below w.heap.size w W
  b0 : Box3 W w.heap.size y0 y1 y2
  b1 : Box3 W (w.heap.size + 1) z0 z1 z2
  b2 : Box3 W (w.heap.size + 1 + 1) x0 x1 x2
theorem Tw.up {w W W' : World} {y0 y1 y2 z0 z1 z2 x0 x1 x2 : Value} (h : Tw w W y0 y1 y2 z0 z1 z2 x0 x1 x2) (k : Below W.heap.size W W') : Tw w W' y0 y1 y2 z0 z1 z2 x0 x1 x2 :=
  ⟨h.bl.trans (k.mono h.bl.size), h.b0.up k, h.b1.up k, h.b2.up k⟩
theorem Tw.grown {w W W' : World} {n e : Nat} {v : Value} {xs : List Value} {y0 y1 y2 z0 z1 z2 x0 x1 x2 : Value} (h : Tw w W y0 y1 y2 z0 z1 z2 x0 x1 x2) (ho : W.ownsRow w.heap.size e 1 v n xs) (he : e ≠ 26) (hg : W.grownBy W' v.ownBlock) : Tw w W' y0 y1 y2 z0 z1 z2 x0 x1 x2 :=
  ⟨below_own h.bl ho hg, h.b0.grown ho he hg, h.b1.grown ho he hg, h.b2.grown ho he hg⟩
theorem Tw.set0 {w W : World} {y0 y1 y2 z0 z1 z2 x0 x1 x2 : Value} (h : Tw w W y0 y1 y2 z0 z1 z2 x0 x1 x2) (v : Value) : Tw w (W.setCell ⟨w.heap.size + 1 + 1, 0, none⟩ v) y0 y1 y2 z0 z1 z2 v x1 x2 :=
  ⟨h.bl.setCell (Nat.le_trans (Nat.le_succ _) (Nat.le_succ _)) v, h.b0.other (by omega) v, h.b1.other (by omega) v, h.b2.set0 v⟩
theorem Tw.set1 {w W : World} {y0 y1 y2 z0 z1 z2 x0 x1 x2 : Value} (h : Tw w W y0 y1 y2 z0 z1 z2 x0 x1 x2) (v : Value) : Tw w (W.setCell ⟨w.heap.size + 1 + 1, 1, none⟩ v) y0 y1 y2 z0 z1 z2 x0 v x2 :=
  ⟨h.bl.setCell (Nat.le_trans (Nat.le_succ _) (Nat.le_succ _)) v, h.b0.other (by omega) v, h.b1.other (by omega) v, h.b2.set1 v⟩
theorem Tw.set2 {w W : World} {y0 y1 y2 z0 z1 z2 x0 x1 x2 : Value} (h : Tw w W y0 y1 y2 z0 z1 z2 x0 x1 x2) (v : Value) : Tw w (W.setCell ⟨w.heap.size + 1 + 1, 2, none⟩ v) y0 y1 y2 z0 z1 z2 x0 x1 v :=
  ⟨h.bl.setCell (Nat.le_trans (Nat.le_succ _) (Nat.le_succ _)) v, h.b0.other (by omega) v, h.b1.other (by omega) v, h.b2.set2 v⟩
theorem tw_new (w : World) (y0 y1 y2 z0 z1 z2 x0 x1 x2 : Value) : Tw w (((w.alloc (.cells #[y0, y1, y2] 26)).alloc (.cells #[z0, z1, z2] 26)).alloc (.cells #[x0, x1, x2] 26)) y0 y1 y2 z0 z1 z2 x0 x1 x2 := by
  have a1 : Box3 (w.alloc (.cells #[y0, y1, y2] 26)) w.heap.size y0 y1 y2 := heap_alloc_new w _
  have a2 : Box3 ((w.alloc (.cells #[y0, y1, y2] 26)).alloc (.cells #[z0, z1, z2] 26)) (w.heap.size + 1) z0 z1 z2 := by
    have h := heap_alloc_new (w.alloc (.cells #[y0, y1, y2] 26)) (.cells #[z0, z1, z2] 26)
    unfold Box3; simpa using h
  have a3 : Box3 (((w.alloc (.cells #[y0, y1, y2] 26)).alloc (.cells #[z0, z1, z2] 26)).alloc (.cells #[x0, x1, x2] 26)) (w.heap.size + 1 + 1) x0 x1 x2 := by
    have h := heap_alloc_new ((w.alloc (.cells #[y0, y1, y2] 26)).alloc (.cells #[z0, z1, z2] 26)) (.cells #[x0, x1, x2] 26)
    unfold Box3; simpa using h
  exact ⟨(((Below.refl w.heap.size w).alloc (Nat.le_refl _) _).alloc (by simp) _).alloc (by simp; omega) _, (a1.up ((Below.refl _ _).alloc (Nat.le_refl _) _)).up ((Below.refl _ _).alloc (Nat.le_refl _) _), a2.up ((Below.refl _ _).alloc (Nat.le_refl _) _), a3⟩
end Go.Proofs.Ythaliiffgkcahaa
