import Derived.Test.YtfphejndbnmfeabK10
import Derived.Test.YtfphejndbnmfeabPlain
import Derived.Laws.OwnMore
namespace Go.Proofs.Ytfphejndbnmfeab
open Go.RowKit

/-- A view whose address, if it has none, is nil's. -/
def Nils (a : Option Addr) (l c : Nat) : Prop := a = none → l = 0 ∧ c = 0
theorem append_view {w : World} {B : Nat} {v : Value} {K : List Int} (hown : w.ownsRow B 5 1 v K.length (K.map (Value.int .u8))) {a : Option Addr} {l c : Nat} {L : List Int} (hv : View w a l L) (hn : Nils a l c) (hl : l ≤ 1000) (hk : K.length ≤ 1000) (hB : B ≤ w.heap.size) (ty : TypeId) :
    ∃ v' w', (Builtin.append_ #[23, 23] ty #[v, .slice a l c]).run Try.prog w = .ok v' w' ∧ w'.ownsRow B 5 1 v' (K ++ L).length ((K ++ L).map (Value.int .u8)) ∧ w.grownBy w' v.ownBlock := by
  obtain ⟨i0, hi, hz0, hz1, hz2⟩ := info5
  cases a with
  | none =>
    obtain ⟨rfl, rfl⟩ := hn rfl
    have : L = [] := List.length_eq_zero_iff.1 hv.1
    subst this
    refine ⟨v, w, run_append_owned_none (P := Try.prog) w B 23 ty 5 i0 1 Try.underlying23 hi v _ _ hown, by simpa using hown, ⟨rfl, rfl, rfl, Nat.le_refl _, fun _ _ _ => rfl⟩⟩
  | some x =>
    have hnews : ∀ j u, (L.map (Value.int .u8))[j]? = some u → w.cell? (x.add j) = some u := by
      intro j u hj
      have hjl : j < L.length := by
        have := (List.getElem?_eq_some_iff.1 hj).1
        simpa using this
      obtain ⟨b', off', e, _, hc⟩ := hv.2 j (by rw [← hv.1]; exact hjl)
      simp only [Option.some.injEq] at e
      subst e
      exact view_news ⟨hv.1, hv.2⟩ j u hj
    obtain ⟨v', w', hrun, r1, r2, _⟩ := run_append_own (P := Try.prog) (w := w) B 23 ty 5 i0 (.int .u8 0) 1 1 Try.underlying23 hi hz0 hz1 hz2 rfl (by decide) v _ _ hown x l c (L.map (Value.int .u8)) (by rw [List.length_map, hv.1]; omega) hnews news_one (by unfold maxLen; omega) (by omega) hB
    exact ⟨v', w', hrun, by rw [List.length_append, hv.1, List.map_append]; exact r1, r2⟩
theorem step_append_view {ops : Array Oper} {o : Oper} {a : Act} {w : World} {KK : Act → World → Prop} {Q : Exit → Act → World → Prop} {E : Prop}
    (hg : o.guard = none) (s x : Operand) (hop : o.op = Op.call { callee := Callee.builtin Builtin.append, args := #[s, x], argTypes := #[23, 23] })
    {B : Nat} {v : Value} {K : List Int} (hs : a.eval s = v) (hown : w.ownsRow B 5 1 v K.length (K.map (Value.int .u8))) {ad : Option Addr} {l c : Nat} {L : List Int} (hx : a.eval x = .slice ad l c) (hv : View w ad l L) (hn : Nils ad l c) (hl : l ≤ 1000) (hk : K.length ≤ 1000) (hB : B ≤ w.heap.size)
    (hK : ∀ (a' : Option Addr) (c' : Nat) (w' : World), w'.ownsRow B 5 1 (.slice a' (K ++ L).length c') (K ++ L).length ((K ++ L).map (Value.int .u8)) → View w' a' (K ++ L).length (K ++ L) → (K ++ L).length ≤ c' → w.grownBy w' v.ownBlock → KK (a.put o.dst (.slice a' (K ++ L).length c')) w') :
    if Region.wanted o (yielded ops a.tmps) = true then Oper.wp Try.prog o a w KK Q else E := by
  have hw : Region.wanted o (yielded ops a.tmps) = true := by simp [Region.wanted, hg]
  rw [if_pos hw]
  obtain ⟨v', w', hrun, r1, r2⟩ := append_view hown hv hn hl hk hB o.type
  obtain ⟨a', c', rfl, h1, h2⟩ := own_view r1
  unfold Oper.wp
  simp [-List.length_append, execOp, hop, resolve, invoke, builtin, hs, hx, hrun, Result.andThen]
  exact hK a' c' w' r1 h1 h2 r2
theorem own_new (w : World) (x : Int) {B : Nat} (hB : B ≤ w.heap.size) : (w.alloc (.cells #[.int .u8 x] 5)).ownsRow B 5 1 (.slice (some ⟨w.heap.size, 0, none⟩) 1 1) ([x] : List Int).length (([x] : List Int).map (Value.int .u8)) :=
  ⟨by simp, .inr ⟨w.heap.size, 1, #[.int .u8 x], rfl, hB, heap_alloc_new w _, Nat.le_refl _, by unfold maxLen; omega, rfl, rfl⟩⟩
/-- A variable of a type is none of a row's cells. -/
theorem box_grown {w w' : World} {B n : Nat} {v : Value} {xs : List Value} (hown : w.ownsRow B 5 1 v n xs) (hg : w.grownBy w' v.ownBlock) {g : Nat} {nm : ByteArray} {a : Option Addr} {l c : Nat} (hb : Box w g nm a l c) : Box w' g nm a l c := by
  unfold Box at hb ⊢
  rw [hg.block g (Array.getElem?_eq_some_iff.1 hb).1 ?_]; exact hb
  rcases hown.2 with ⟨rfl, _⟩ | ⟨g', cap, cur, rfl, _, hgg, _⟩
  · simp [Value.ownBlock]
  · intro e
    simp only [Value.ownBlock, Option.some.injEq] at e
    subst e
    rw [hgg] at hb
    simp at hb
/-- What a law keeps: its two types. -/
def Two (n1 : ByteArray) (p1 : Option Addr) (m1 q1 : Nat) (n2 : ByteArray) (p2 : Option Addr) (m2 q2 : Nat) (w W : World) : Prop :=
  Box W w.heap.size n1 p1 m1 q1 ∧ Box W (w.heap.size + 1) n2 p2 m2 q2 ∧ Below w.heap.size w W
theorem Two.up {n1 : ByteArray} {p1 : Option Addr} {m1 q1 : Nat} {n2 : ByteArray} {p2 : Option Addr} {m2 q2 : Nat} {w W W' : World} (h : Two n1 p1 m1 q1 n2 p2 m2 q2 w W) (hb : Below W.heap.size W W') : Two n1 p1 m1 q1 n2 p2 m2 q2 w W' :=
  ⟨h.1.up hb, h.2.1.up hb, h.2.2.trans (hb.mono h.2.2.size)⟩
theorem Two.alloc {n1 : ByteArray} {p1 : Option Addr} {m1 q1 : Nat} {n2 : ByteArray} {p2 : Option Addr} {m2 q2 : Nat} {w W : World} (h : Two n1 p1 m1 q1 n2 p2 m2 q2 w W) (o : Obj) : Two n1 p1 m1 q1 n2 p2 m2 q2 w (W.alloc o) :=
  h.up ((Below.refl _ _).alloc (Nat.le_refl _) o)
theorem Two.le {n1 : ByteArray} {p1 : Option Addr} {m1 q1 : Nat} {n2 : ByteArray} {p2 : Option Addr} {m2 q2 : Nat} {w W : World} (h : Two n1 p1 m1 q1 n2 p2 m2 q2 w W) : w.heap.size + 1 < W.heap.size := h.2.1.lt
theorem Two.grown {n1 : ByteArray} {p1 : Option Addr} {m1 q1 : Nat} {n2 : ByteArray} {p2 : Option Addr} {m2 q2 : Nat} {w W W' : World} {B n : Nat} {v : Value} {xs : List Value} (h : Two n1 p1 m1 q1 n2 p2 m2 q2 w W) (hown : W.ownsRow B 5 1 v n xs) (hB : w.heap.size ≤ B) (hg : W.grownBy W' v.ownBlock) : Two n1 p1 m1 q1 n2 p2 m2 q2 w W' :=
  ⟨box_grown hown hg h.1, box_grown hown hg h.2.1, h.2.2.grown hg h.2.2.size (fun k hk => by have := (hown.lt k hk).1; omega)⟩
theorem Two.set {n1 : ByteArray} {p1 : Option Addr} {m1 q1 : Nat} {n2 : ByteArray} {p2 : Option Addr} {m2 q2 : Nat} {w W : World} (h : Two n1 p1 m1 q1 n2 p2 m2 q2 w W) {g : Nat} (hg : w.heap.size + 1 < g) (u v : Value) : Two n1 p1 m1 q1 n2 p2 m2 q2 w ((W.setCell ⟨g, 0, none⟩ u).setCell ⟨g, 1, none⟩ v) :=
  ⟨h.1.other (by omega) _ _, h.2.1.other (by omega) _ _, below_set h.2.2 (by omega) _ _⟩
end Go.Proofs.Ytfphejndbnmfeab
