/- Layer 10: what goes one way, in memory. -/
import Derived.Test.YthaliiffgkcahaaProg
import Derived.Below
import Derived.Deep.LoopGhost
import Derived.Lib.Hide
import Derived.Outline
import Derived.WalkKit
import Derived.WalkLawsBesides
import Derived.WalkSpells
import Derived.Laws.AppendOwn
import Derived.Laws.AppendOwnNone
import Derived.LoopTactic
import Derived.BigQuiet
import Derived.Deep.QuietTactic
import Derived.Deep.RegionHeld3
import Derived.Deep.RegionWith
import Derived.IntWalk
import Derived.Deep.DeepCutAuto
import Derived.Laws.StructEq
import Derived.Maps.AppendAt
import Derived.OwnWalk
namespace Go.Proofs.Ythaliiffgkcahaa
open Go.RowKit Go.Maps
theorem ret_int {k : IntKind} {a b : Int} (h : a = b) : Ending.returned (.int k a) = .returned (.int k b) := by rw [h]
theorem ret_bool {a b : Bool} (h : a = b) : Ending.returned (.bool a) = .returned (.bool b) := by rw [h]
theorem ret_two {k m : IntKind} {a b c d : Int} (h : a = b) (g : c = d) : Ending.returned (.agg #[.int k a, .int m c]) = .returned (.agg #[.int k b, .int m d]) := by rw [h, g]
theorem upto_next {p : Nat → Prop} {i : Nat} (h : ∀ j, j < i → p j) (hi : p i) : ∀ j, j < i + 1 → p j := fun j hj => by
  by_cases e : j = i
  · subst e; exact hi
  · exact h j (by omega)
theorem own_below {w w' : World} {B s n : Nat} {e : TypeId} {v : Value} {x : List Value} (h : w.ownsRow B e s v n x) (b : Below w.heap.size w w') : w'.ownsRow B e s v n x :=
  h.kept (row := none) ⟨b.os, b.tape, b.output, b.size, fun k hk _ => b.block k hk⟩ (Classical.em _)
theorem own_base {w : World} {B B' s n : Nat} {e : TypeId} {v : Value} {x : List Value} (h : w.ownsRow B e s v n x) (hb : B' ≤ B) : w.ownsRow B' e s v n x := by
  refine ⟨h.1, ?_⟩
  rcases h.2 with h | ⟨g', cap', cur, h', hb', rest⟩
  · exact .inl h
  · exact .inr ⟨g', cap', cur, h', Nat.le_trans hb hb', rest⟩
theorem own_far {w w' : World} {B B2 s s2 n n2 : Nat} {e e2 : TypeId} {v v2 : Value} {x x2 : List Value} (h1 : w.ownsRow B e s v n x) (h2 : w'.ownsRow B2 e2 s2 v2 n2 x2) (hb : w.heap.size ≤ B2) : v.ownBlock = none ∨ v.ownBlock ≠ v2.ownBlock := by
  rcases h1.2 with ⟨rfl, _⟩ | ⟨q, cap, cur, rfl, _, hg, _⟩
  · exact .inl rfl
  · rcases h2.2 with ⟨rfl, _⟩ | ⟨q', cap', cur', rfl, hq', _⟩
    · exact .inr (by simp [Value.ownBlock])
    · refine .inr fun ee => ?_
      simp only [Value.ownBlock, Option.some.injEq] at ee
      have := (Array.getElem?_eq_some_iff.1 hg).1
      omega
theorem news_at (w : World) (cs : Array Value) (t : TypeId) (L : List Value) (h : cs.toList = L) : ∀ j u, L[j]? = some u → (w.alloc (.cells cs t)).cell? ((⟨w.heap.size, 0, none⟩ : Addr).add j) = some u := by
  subst h
  intro j u hj
  simp only [Addr.add_lit, Nat.zero_add, World.cell?, heap_alloc_new]
  simpa using hj
theorem below_drewN0 {B : Nat} {w w1 : World} (h : Below B w w1) (n : Nat) : Below B w (w1.drewN n) := ⟨h.os, h.tape, h.output, h.size, h.block⟩
theorem grown_refl (W : World) (row : Option Nat) : W.grownBy W row := ⟨rfl, rfl, rfl, Nat.le_refl _, fun _ _ _ => rfl⟩
theorem grown_set (W : World) (q o : Nat) (v : Value) : W.grownBy (W.setCell ⟨q, o, none⟩ v) (some q) :=
  ⟨rfl, rfl, rfl, by simp [World.setCell], fun i _ hne => RowKit.Below.heap_setCell _ _ _ _ (fun e => hne (by rw [show i = q from e]))⟩
theorem infoI : ∃ i, Try.prog.info? 3 = some i ∧ i.zero = some (.int .i64 0) ∧ i.size = 1 ∧ i.bytes = 8 := by
  have h := Try.typeInfo3 default
  unfold typeInfo at h
  cases hq : Try.prog.info? 3 with
  | none => simp [hq] at h
  | some i =>
    simp [hq] at h
    exact ⟨i, rfl, by rw [h]; rfl, by rw [h]; rfl, by rw [h]; rfl⟩
def gI (L : List Int) (i : Nat) : Int := L.getD i 0
theorem gI_get {L : List Int} {i : Nat} (h : i < L.length) : L[i]? = some (gI L i) := by
  unfold gI
  rw [List.getD_eq_getElem?_getD, List.getElem?_eq_getElem h]; rfl
theorem gI_mem {L : List Int} {i : Nat} (h : i < L.length) : gI L i ∈ L := by
  unfold gI
  rw [List.getD_eq_getElem?_getD, List.getElem?_eq_getElem h]
  exact List.getElem_mem h
theorem gI_ext {L M : List Int} (h : L.length = M.length) (k : ∀ i, i < L.length → gI L i = gI M i) : L = M := by
  apply List.ext_getElem h
  intro i h1 h2
  have := k i h1
  have a := gI_get h1
  have b := gI_get h2
  rw [List.getElem?_eq_getElem h1] at a
  rw [List.getElem?_eq_getElem h2] at b
  simp only [Option.some.injEq] at a b
  rw [a, b, this]
/-- Numbers that stand somewhere. -/
def IV (w : World) (a : Option Addr) (L : List Int) : Prop :=
  ∀ i, i < L.length → ∃ b off, a = some ⟨b, off, none⟩ ∧ b < w.heap.size ∧ w.cell? ⟨b, off + i, none⟩ = some (.int .i64 (gI L i))
theorem IV.below {w w' : World} {a : Option Addr} {L : List Int} (h : IV w a L) (k : Below w.heap.size w w') : IV w' a L := fun i hi => by
  obtain ⟨b, off, e, hb, c0⟩ := h i hi
  exact ⟨b, off, e, Nat.lt_of_lt_of_le hb k.size, (k.cell (p := ⟨b, _, none⟩) hb).trans c0⟩
theorem IV.at_ {w : World} {b off : Nat} {L : List Int} (h : IV w (some ⟨b, off, none⟩) L) {i : Nat} (hi : i < L.length) : b < w.heap.size ∧ w.cell? ⟨b, off + i, none⟩ = some (.int .i64 (gI L i)) := by
  obtain ⟨b', off', e, k⟩ := h i hi
  cases e
  exact k
theorem IV.addr {w : World} {a : Option Addr} {L : List Int} (h : IV w a L) (h0 : 0 < L.length) : ∃ b off, a = some ⟨b, off, none⟩ := by
  obtain ⟨b, off, e, _⟩ := h 0 h0
  exact ⟨b, off, e⟩
def rI (L : List Int) : List Value := L.map (Value.int .i64)
theorem rI_app (L M : List Int) : rI (L ++ M) = rI L ++ rI M := by unfold rI; rw [List.map_append]
theorem rI_len (L : List Int) : (rI L).length = L.length := by unfold rI; simp
theorem rI_at (L : List Int) (i : Nat) (h : i < L.length) : (rI L)[i]? = some (.int .i64 (gI L i)) := by
  unfold rI
  rw [List.getElem?_map, gI_get h]; rfl
theorem rI_one (L : List Int) : ∀ u ∈ rI L, u.oneCell' = true := by
  intro u hu
  unfold rI at hu
  obtain ⟨c, _, rfl⟩ := List.mem_map.1 hu
  rfl
/-- A row of numbers of the call's own. -/
def OwnI (w : World) (B : Nat) (v : Value) (L : List Int) : Prop := w.ownsRow B 3 1 v L.length (rI L)
theorem OwnI.view {w : World} {B : Nat} {v : Value} {L : List Int} (h : OwnI w B v L) : ∃ ad cap, v = .slice ad L.length cap ∧ L.length ≤ cap ∧ IV w ad L ∧ (ad = none → L.length = 0 ∧ cap = 0) := by
  rcases h.2 with ⟨rfl, hn⟩ | ⟨q, cap, cur, rfl, hg, hgg, h1, h2, h3, h4⟩
  · have : L = [] := by cases L with | nil => rfl | cons _ _ => simp at hn
    subst this
    exact ⟨none, 0, rfl, Nat.le_refl _, fun i hi => by simp at hi, fun _ => ⟨rfl, rfl⟩⟩
  · exact ⟨some ⟨q, 0, none⟩, cap, rfl, h1, fun i hi => ⟨q, 0, rfl, (Array.getElem?_eq_some_iff.1 hgg).1, by rw [Nat.zero_add, h.cellAt i (by omega)]; exact rI_at L i hi⟩, fun e => by cases e⟩
theorem OwnI.below {w w' : World} {B : Nat} {v : Value} {L : List Int} (h : OwnI w B v L) (b : Below w.heap.size w w') : OwnI w' B v L := own_below h b
theorem OwnI.nil (w : World) (B : Nat) : OwnI w B (.slice none 0 0) [] := World.ownsRow_nil _ _ _ _
/-- What grows a row of one's own leaves what was there before. -/
theorem below_own {w0 w w' : World} {s n : Nat} {e : TypeId} {v : Value} {x : List Value} (hb : Below w0.heap.size w0 w) (ho : w.ownsRow w0.heap.size e s v n x) (hg : w.grownBy w' v.ownBlock) : Below w0.heap.size w0 w' :=
  hb.grown hg hb.size (fun q hq => (ho.lt q hq).1)
/-- A row of numbers, behind a number that is put at its end. -/
def AddPost (w0 : World) (M : List Int) (v' : Value) (w' : World) : Prop := OwnI w' w0.heap.size v' M ∧ Below w0.heap.size w0 w'
theorem OwnI.base {w : World} {B B' : Nat} {v : Value} {L : List Int} (h : OwnI w B v L) (hb : B' ≤ B) : OwnI w B' v L := own_base h hb
/-! ### Rows of Bools -/
def gB (L : List Bool) (i : Nat) : Bool := L.getD i false
theorem gB_get {L : List Bool} {i : Nat} (h : i < L.length) : L[i]? = some (gB L i) := by
  unfold gB
  rw [List.getD_eq_getElem?_getD, List.getElem?_eq_getElem h]; rfl
theorem gB_ext {L M : List Bool} (h : L.length = M.length) (k : ∀ i, i < L.length → gB L i = gB M i) : L = M := by
  apply List.ext_getElem h
  intro i h1 h2
  have := k i h1
  have a := gB_get h1
  have b := gB_get h2
  rw [List.getElem?_eq_getElem h1] at a
  rw [List.getElem?_eq_getElem h2] at b
  simp only [Option.some.injEq] at a b
  rw [a, b, this]
def BV (w : World) (a : Option Addr) (L : List Bool) : Prop :=
  ∀ i, i < L.length → ∃ b off, a = some ⟨b, off, none⟩ ∧ b < w.heap.size ∧ w.cell? ⟨b, off + i, none⟩ = some (.bool (gB L i))
theorem BV.below {w w' : World} {a : Option Addr} {L : List Bool} (h : BV w a L) (k : Below w.heap.size w w') : BV w' a L := fun i hi => by
  obtain ⟨b, off, e, hb, c0⟩ := h i hi
  exact ⟨b, off, e, Nat.lt_of_lt_of_le hb k.size, (k.cell (p := ⟨b, _, none⟩) hb).trans c0⟩
theorem BV.at_ {w : World} {b off : Nat} {L : List Bool} (h : BV w (some ⟨b, off, none⟩) L) {i : Nat} (hi : i < L.length) : b < w.heap.size ∧ w.cell? ⟨b, off + i, none⟩ = some (.bool (gB L i)) := by
  obtain ⟨b', off', e, k⟩ := h i hi
  cases e
  exact k
theorem BV.addr {w : World} {a : Option Addr} {L : List Bool} (h : BV w a L) (h0 : 0 < L.length) : ∃ b off, a = some ⟨b, off, none⟩ := by
  obtain ⟨b, off, e, _⟩ := h 0 h0
  exact ⟨b, off, e⟩
def rB (L : List Bool) : List Value := L.map Value.bool
theorem rB_len (L : List Bool) : (rB L).length = L.length := by unfold rB; simp
theorem rB_at (L : List Bool) (i : Nat) (h : i < L.length) : (rB L)[i]? = some (.bool (gB L i)) := by
  unfold rB
  rw [List.getElem?_map, gB_get h]; rfl
theorem rB_one (L : List Bool) : ∀ u ∈ rB L, u.oneCell' = true := by
  intro u hu
  unfold rB at hu
  obtain ⟨c, _, rfl⟩ := List.mem_map.1 hu
  rfl
/-! ### Rows of rows -/
def gS (S : List (List Int)) (i : Nat) : List Int := S.getD i []
theorem gS_get {S : List (List Int)} {i : Nat} (h : i < S.length) : S[i]? = some (gS S i) := by
  unfold gS
  rw [List.getD_eq_getElem?_getD, List.getElem?_eq_getElem h]; rfl
theorem gS_ext {L M : List (List Int)} (h : L.length = M.length) (k : ∀ i, i < L.length → gS L i = gS M i) : L = M := by
  apply List.ext_getElem h
  intro i h1 h2
  have := k i h1
  have a := gS_get h1
  have b := gS_get h2
  rw [List.getElem?_eq_getElem h1] at a
  rw [List.getElem?_eq_getElem h2] at b
  simp only [Option.some.injEq] at a b
  rw [a, b, this]
/-- A row as its slice tells it. -/
def IS (w : World) (v : Value) (L : List Int) : Prop := ∃ ad cp, v = .slice ad L.length cp ∧ L.length ≤ cp ∧ cp ≤ maxLen ∧ IV w ad L ∧ (ad = none → L.length = 0 ∧ cp = 0)
theorem IS.below {w w' : World} {v : Value} {L : List Int} (h : IS w v L) (k : Below w.heap.size w w') : IS w' v L := by
  obtain ⟨ad, cp, e, h1, h2, h3, h4⟩ := h
  exact ⟨ad, cp, e, h1, h2, h3.below k, h4⟩
def SV (w : World) (a : Option Addr) (S : List (List Int)) : Prop :=
  ∀ i, i < S.length → ∃ b off, a = some ⟨b, off, none⟩ ∧ b < w.heap.size ∧ ∃ v, w.cell? ⟨b, off + i, none⟩ = some v ∧ IS w v (gS S i)
theorem SV.below {w w' : World} {a : Option Addr} {S : List (List Int)} (h : SV w a S) (k : Below w.heap.size w w') : SV w' a S := fun i hi => by
  obtain ⟨b, off, e, hb, v, c0, h1⟩ := h i hi
  exact ⟨b, off, e, Nat.lt_of_lt_of_le hb k.size, v, (k.cell (p := ⟨b, _, none⟩) hb).trans c0, h1.below k⟩
theorem SV.at_ {w : World} {b off : Nat} {S : List (List Int)} (h : SV w (some ⟨b, off, none⟩) S) {i : Nat} (hi : i < S.length) : b < w.heap.size ∧ ∃ ad cp, w.cell? ⟨b, off + i, none⟩ = some (.slice ad (gS S i).length cp) ∧ (gS S i).length ≤ cp ∧ cp ≤ maxLen ∧ IV w ad (gS S i) ∧ (ad = none → (gS S i).length = 0 ∧ cp = 0) := by
  obtain ⟨b', off', e, hb, v, c0, ad, cp, rfl, k⟩ := h i hi
  cases e
  exact ⟨hb, ad, cp, c0, k⟩
theorem SV.addr {w : World} {a : Option Addr} {S : List (List Int)} (h : SV w a S) (h0 : 0 < S.length) : ∃ b off, a = some ⟨b, off, none⟩ := by
  obtain ⟨b, off, e, _⟩ := h 0 h0
  exact ⟨b, off, e⟩
/-- What goes one way: its classes, its rows, which states accept; and where they stand. -/
structure DF where
  C : List Int
  S : List (List Int)
  B : List Bool
structure DA where
  a0 : Option Addr
  a1 : Option Addr
  a2 : Option Addr
  c0 : Nat
  c1 : Nat
  c2 : Nat
def dv (a : DA) (d : DF) : Value := .agg #[.slice a.a0 d.C.length a.c0, .slice a.a1 d.S.length a.c1, .slice a.a2 d.B.length a.c2]
structure DV (w : World) (a : DA) (d : DF) : Prop where
  iv : IV w a.a0 d.C
  sv : SV w a.a1 d.S
  bv : BV w a.a2 d.B
  l0 : d.C.length ≤ a.c0
  l1 : d.S.length ≤ a.c1
  l2 : d.B.length ≤ a.c2
  m0 : a.c0 ≤ maxLen
  m1 : a.c1 ≤ maxLen
  m2 : a.c2 ≤ maxLen
  n0 : a.a0 = none → d.C.length = 0 ∧ a.c0 = 0
  n1 : a.a1 = none → d.S.length = 0 ∧ a.c1 = 0
  n2 : a.a2 = none → d.B.length = 0 ∧ a.c2 = 0
theorem DV.below {w w' : World} {a : DA} {d : DF} (h : DV w a d) (k : Below w.heap.size w w') : DV w' a d :=
  { h with iv := h.iv.below k, sv := h.sv.below k, bv := h.bv.below k }
end Go.Proofs.Ythaliiffgkcahaa
