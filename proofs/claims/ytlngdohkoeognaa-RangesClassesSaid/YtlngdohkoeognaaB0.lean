/- Layer 6: ranges in memory. -/
import Derived.Test.YtlngdohkoeognaaProg
import Derived.Below
import Derived.Deep.LoopGhost
import Derived.Lib.Hide
import Derived.Outline
import Derived.WalkKit
import Derived.WalkLawsBesides
import Derived.WalkSpells
import Derived.Laws.AppendOwn
import Derived.Laws.AppendOwnNone
import Derived.LoopTactic
import Derived.BigQuiet
import Derived.Deep.QuietTactic
import Derived.Deep.RegionHeld3
import Derived.Deep.DeepCutAuto
import Derived.Laws.StructEq
import Derived.Maps.AppendAt
import Derived.Test.YtlngdohkoeognaaA2
namespace Go.Proofs.Ytlngdohkoeognaa
open Go.RowKit Go.Maps
theorem ret_int {k : IntKind} {a b : Int} (h : a = b) : Ending.returned (.int k a) = .returned (.int k b) := by rw [h]
theorem ret_bool {a b : Bool} (h : a = b) : Ending.returned (.bool a) = .returned (.bool b) := by rw [h]
def gR (L : List Rg) (i : Nat) : Rg := L.getD i (0, 0)
theorem gR_mem {L : List Rg} {i : Nat} (h : i < L.length) : gR L i ∈ L := by
  unfold gR
  rw [List.getD_eq_getElem?_getD, List.getElem?_eq_getElem h]
  exact List.getElem_mem h
theorem gR_get {L : List Rg} {i : Nat} (h : i < L.length) : L[i]? = some (gR L i) := by
  unfold gR
  rw [List.getD_eq_getElem?_getD, List.getElem?_eq_getElem h]; rfl
theorem take_succ' {L : List Rg} {i : Nat} (h : i < L.length) : L.take (i + 1) = L.take i ++ [gR L i] := by
  rw [List.take_add_one, gR_get h]; rfl
theorem gR_ext {L M : List Rg} (h : L.length = M.length) (k : ∀ i, i < L.length → gR L i = gR M i) : L = M := by
  apply List.ext_getElem h
  intro i h1 h2
  have := k i h1
  have a := gR_get h1
  have b := gR_get h2
  rw [List.getElem?_eq_getElem h1] at a
  rw [List.getElem?_eq_getElem h2] at b
  simp only [Option.some.injEq] at a b
  rw [a, b, this]
/-- Ranges that stand somewhere. -/
def RV (w : World) (a : Option Addr) (L : List Rg) : Prop :=
  ∀ i, i < L.length → ∃ b off, a = some ⟨b, off, none⟩ ∧ b < w.heap.size ∧ w.cell? ⟨b, off + i * 2, none⟩ = some (.int .i64 (gR L i).1) ∧ w.cell? ⟨b, off + i * 2 + 1, none⟩ = some (.int .i64 (gR L i).2)
theorem RV.below {w w' : World} {a : Option Addr} {L : List Rg} (h : RV w a L) (k : Below w.heap.size w w') : RV w' a L := fun i hi => by
  obtain ⟨b, off, e, hb, c0, c1⟩ := h i hi
  exact ⟨b, off, e, Nat.lt_of_lt_of_le hb k.size, (k.cell (p := ⟨b, _, none⟩) hb).trans c0, (k.cell (p := ⟨b, _, none⟩) hb).trans c1⟩
theorem RV.at_ {w : World} {b off : Nat} {L : List Rg} (h : RV w (some ⟨b, off, none⟩) L) {i : Nat} (hi : i < L.length) : b < w.heap.size ∧ w.cell? ⟨b, off + i * 2, none⟩ = some (.int .i64 (gR L i).1) ∧ w.cell? ⟨b, off + i * 2 + 1, none⟩ = some (.int .i64 (gR L i).2) := by
  obtain ⟨b', off', e, k⟩ := h i hi
  cases e
  exact k
theorem RV.addr {w : World} {a : Option Addr} {L : List Rg} (h : RV w a L) (h0 : 0 < L.length) : ∃ b off, a = some ⟨b, off, none⟩ := by
  obtain ⟨b, off, e, _⟩ := h 0 h0
  exact ⟨b, off, e⟩
theorem RV.nil (w : World) (a : Option Addr) : RV w a [] := fun i hi => by simp at hi
/-- Numbers are such of 64 bits. -/
def RW (L : List Rg) : Prop := ∀ r ∈ L, -9223372036854775808 ≤ r.1 ∧ r.1 ≤ 9223372036854775807 ∧ -9223372036854775808 ≤ r.2 ∧ r.2 ≤ 9223372036854775807
def rw2 (L : List Rg) : List Value := L.flatMap fun r => [.int .i64 r.1, .int .i64 r.2]
theorem rw2_nil : rw2 [] = [] := rfl
theorem rw2_cons (r : Rg) (L : List Rg) : rw2 (r :: L) = .int .i64 r.1 :: .int .i64 r.2 :: rw2 L := rfl
theorem rw2_app (L M : List Rg) : rw2 (L ++ M) = rw2 L ++ rw2 M := by unfold rw2; rw [List.flatMap_append]
theorem rw2_len : ∀ L : List Rg, (rw2 L).length = L.length * 2
  | [] => rfl
  | r :: L => by rw [rw2_cons]; simp [rw2_len L]; omega
theorem rw2_at : ∀ (L : List Rg) (i : Nat), i < L.length → (rw2 L)[i * 2]? = some (.int .i64 (gR L i).1) ∧ (rw2 L)[i * 2 + 1]? = some (.int .i64 (gR L i).2)
  | [], i, h => by simp at h
  | r :: L, 0, h => ⟨rfl, rfl⟩
  | r :: L, i + 1, h => by
    have ih := rw2_at L i (by simpa using h)
    rw [rw2_cons, show (i + 1) * 2 = i * 2 + 2 by omega]
    exact ih
theorem rw2_one (L : List Rg) : ∀ u ∈ rw2 L, u.oneCell' = true := by
  intro u hu
  unfold rw2 at hu
  obtain ⟨c, _, hc⟩ := List.mem_flatMap.1 hu
  simp at hc
  rcases hc with rfl | rfl <;> rfl
theorem rv_news {w : World} {b off : Nat} {L : List Rg} (h : RV w (some ⟨b, off, none⟩) L) : ∀ j u, (rw2 L)[j]? = some u → w.cell? ((⟨b, off, none⟩ : Addr).add j) = some u := by
  intro j u hj
  have hlt := (List.getElem?_eq_some_iff.1 hj).1
  rw [rw2_len] at hlt
  obtain ⟨_, c0, c1⟩ := h.at_ (i := j / 2) (by omega)
  obtain ⟨a0, a1⟩ := rw2_at L (j / 2) (by omega)
  rw [Addr.add_lit]
  show w.cell? ⟨b, off + j, none⟩ = some u
  rcases (by omega : j = j / 2 * 2 ∨ j = j / 2 * 2 + 1) with e | e
  · rw [e] at hj ⊢; rw [a0] at hj; rw [c0]; exact hj
  · rw [e] at hj ⊢; rw [a1] at hj; rw [← Nat.add_assoc, c1]; exact hj
theorem rv_of {w : World} {q : Nat} {L : List Rg} (hq : q < w.heap.size) (h : ∀ j, j < L.length * 2 → w.cell? ⟨q, j, none⟩ = (rw2 L)[j]?) : RV w (some ⟨q, 0, none⟩) L := fun i hi => by
  obtain ⟨a0, a1⟩ := rw2_at L i hi
  exact ⟨q, 0, rfl, hq, by rw [Nat.zero_add, h _ (by omega)]; exact a0, by rw [Nat.zero_add, h _ (by omega)]; exact a1⟩
/-- A row of the call's own. -/
def Own (w : World) (B : Nat) (v : Value) (L : List Rg) : Prop := w.ownsRow B 48 2 v L.length (rw2 L)
theorem Own.view {w : World} {B : Nat} {v : Value} {L : List Rg} (h : Own w B v L) : ∃ ad cap, v = .slice ad L.length cap ∧ L.length ≤ cap ∧ RV w ad L ∧ (ad = none → L.length = 0 ∧ cap = 0) := by
  rcases h.2 with ⟨rfl, hn⟩ | ⟨q, cap, cur, rfl, hg, hgg, h1, h2, h3, h4⟩
  · have : L = [] := by cases L with | nil => rfl | cons _ _ => simp [rw2] at hn
    subst this
    exact ⟨none, 0, rfl, Nat.le_refl _, RV.nil _ _, fun _ => ⟨rfl, rfl⟩⟩
  · exact ⟨some ⟨q, 0, none⟩, cap, rfl, h1, rv_of (Array.getElem?_eq_some_iff.1 hgg).1 (fun j hj => h.cellAt j hj), fun e => by cases e⟩
theorem own_below {w w' : World} {B s n : Nat} {e : TypeId} {v : Value} {x : List Value} (h : w.ownsRow B e s v n x) (b : Below w.heap.size w w') : w'.ownsRow B e s v n x :=
  h.kept (row := none) ⟨b.os, b.tape, b.output, b.size, fun k hk _ => b.block k hk⟩ (Classical.em _)
theorem own_base {w : World} {B B' s n : Nat} {e : TypeId} {v : Value} {x : List Value} (h : w.ownsRow B e s v n x) (hb : B' ≤ B) : w.ownsRow B' e s v n x := by
  refine ⟨h.1, ?_⟩
  rcases h.2 with h | ⟨g', cap', cur, h', hb', rest⟩
  · exact .inl h
  · exact .inr ⟨g', cap', cur, h', Nat.le_trans hb hb', rest⟩
theorem own_far {w w' : World} {B B2 s s2 n n2 : Nat} {e e2 : TypeId} {v v2 : Value} {x x2 : List Value} (h1 : w.ownsRow B e s v n x) (h2 : w'.ownsRow B2 e2 s2 v2 n2 x2) (hb : w.heap.size ≤ B2) : v.ownBlock = none ∨ v.ownBlock ≠ v2.ownBlock := by
  rcases h1.2 with ⟨rfl, _⟩ | ⟨q, cap, cur, rfl, _, hg, _⟩
  · exact .inl rfl
  · rcases h2.2 with ⟨rfl, _⟩ | ⟨q', cap', cur', rfl, hq', _⟩
    · exact .inr (by simp [Value.ownBlock])
    · refine .inr fun ee => ?_
      simp only [Value.ownBlock, Option.some.injEq] at ee
      have := (Array.getElem?_eq_some_iff.1 hg).1
      omega
theorem apart_symm {a b : Option Nat} (h : a = none ∨ a ≠ b) : b = none ∨ b ≠ a := by
  cases b with
  | none => exact .inl rfl
  | some q => exact .inr (fun e => by rcases h with h | h; (rw [h] at e; cases e); exact h e.symm)
theorem Own.below {w w' : World} {B : Nat} {v : Value} {L : List Rg} (h : Own w B v L) (b : Below w.heap.size w w') : Own w' B v L := own_below h b
theorem Own.base {w : World} {B B' : Nat} {v : Value} {L : List Rg} (h : Own w B v L) (hb : B' ≤ B) : Own w B' v L := own_base h hb
theorem Own.nil (w : World) (B : Nat) : Own w B (.slice none 0 0) [] := World.ownsRow_nil _ _ _ _
theorem news_at (w : World) (cs : Array Value) (t : TypeId) (L : List Value) (h : cs.toList = L) : ∀ j u, L[j]? = some u → (w.alloc (.cells cs t)).cell? ((⟨w.heap.size, 0, none⟩ : Addr).add j) = some u := by
  subst h
  intro j u hj
  simp only [Addr.add_lit, Nat.zero_add, World.cell?, heap_alloc_new]
  simpa using hj
theorem below_drewN0 {B : Nat} {w w1 : World} (h : Below B w w1) (n : Nat) : Below B w (w1.drewN n) := ⟨h.os, h.tape, h.output, h.size, h.block⟩
theorem grown_refl (W : World) (row : Option Nat) : W.grownBy W row := ⟨rfl, rfl, rfl, Nat.le_refl _, fun _ _ _ => rfl⟩
theorem grown_set (W : World) (q o : Nat) (v : Value) : W.grownBy (W.setCell ⟨q, o, none⟩ v) (some q) :=
  ⟨rfl, rfl, rfl, by simp [World.setCell], fun i _ hne => RowKit.Below.heap_setCell _ _ _ _ (fun e => hne (by rw [show i = q from e]))⟩
theorem infoI : ∃ i, Try.prog.info? 3 = some i ∧ i.zero = some (.int .i64 0) ∧ i.size = 1 ∧ i.bytes = 8 := by
  have h := Try.typeInfo3 default
  unfold typeInfo at h
  cases hq : Try.prog.info? 3 with
  | none => simp [hq] at h
  | some i =>
    simp [hq] at h
    exact ⟨i, rfl, by rw [h]; rfl, by rw [h]; rfl, by rw [h]; rfl⟩
theorem infoR : ∃ i, Try.prog.info? 48 = some i ∧ i.zero = some (.agg #[.int .i64 0, .int .i64 0]) ∧ i.size = 2 ∧ i.bytes = 16 := by
  have h := Try.typeInfo48 default
  unfold typeInfo at h
  cases hq : Try.prog.info? 48 with
  | none => simp [hq] at h
  | some i =>
    simp [hq] at h
    exact ⟨i, rfl, by rw [h]; rfl, by rw [h]; rfl, by rw [h]; rfl⟩
end Go.Proofs.Ytlngdohkoeognaa
