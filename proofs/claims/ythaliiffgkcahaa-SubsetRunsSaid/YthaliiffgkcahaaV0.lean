/- Views of what came in, of whatever depth: put together of views of parts. No program in sight. -/
import Derived.ChangeArms
import Derived.Below
import Derived.WalkKit
import Derived.Outline
namespace Go.Proofs.Ythaliiffgkcahaa
open Go.RowKit
/-- How values of a type stand in memory: data, cells, and what they mean. -/
structure Vw : Type 1 where
  D : Type
  size : Nat
  rd : World → D → List Value → Prop
def vInt (k : IntKind) : Vw := ⟨Int, 1, fun _ n cs => cs = [.int k n] ∧ (Lit.int k n).wf = true⟩
def vBool : Vw := ⟨Bool, 1, fun _ b cs => cs = [.bool b]⟩
def vStr : Vw := ⟨ByteArray, 1, fun _ s cs => cs = [.string s] ∧ s.size ≤ maxLen⟩
/-- What stands at a place, a part behind the other. -/
def rowAt (V : Vw) (w : World) (a : Option Addr) (ds : List V.D) : Prop :=
  ∀ i (h : i < ds.length), ∃ b off, a = some ⟨b, off, none⟩ ∧ b < w.heap.size ∧ ∃ es, es.length = V.size ∧ (∀ j, j < V.size → w.cell? ⟨b, off + i * V.size + j, none⟩ = es[j]?) ∧ V.rd w (ds[i]'h) es
def vSlice (V : Vw) : Vw := ⟨List V.D, 1, fun w ds cs => ∃ a c, cs = [.slice a ds.length c] ∧ ds.length ≤ c ∧ c ≤ maxLen ∧ (a = none → ds.length = 0 ∧ c = 0) ∧ rowAt V w a ds⟩
def vNil : Vw := ⟨Unit, 0, fun _ _ cs => cs = []⟩
def vCons (f r : Vw) : Vw := ⟨f.D × r.D, f.size + r.size, fun w d cs => ∃ c1 c2, cs = c1 ++ c2 ∧ c1.length = f.size ∧ c2.length = r.size ∧ f.rd w d.1 c1 ∧ r.rd w d.2 c2⟩
/-- It stays, whatever is done to other memory. -/
def Keeps (V : Vw) : Prop := ∀ {w w' : World} {d : V.D} {cs : List Value}, V.rd w d cs → Below w.heap.size w w' → V.rd w' d cs
theorem keeps_int (k : IntKind) : Keeps (vInt k) := fun h _ => h
theorem keeps_bool : Keeps vBool := fun h _ => h
theorem keeps_str : Keeps vStr := fun h _ => h
theorem keeps_nil : Keeps vNil := fun h _ => h
theorem rowAt_below {V : Vw} (hV : Keeps V) {w w' : World} {a : Option Addr} {ds : List V.D} (h : rowAt V w a ds) (k : Below w.heap.size w w') : rowAt V w' a ds := fun i hi => by
  obtain ⟨b, off, e, hb, es, h1, h2, h3⟩ := h i hi
  exact ⟨b, off, e, Nat.lt_of_lt_of_le hb k.size, es, h1, fun j hj => (k.cell (p := ⟨b, _, none⟩) hb).trans (h2 j hj), hV h3 k⟩
theorem keeps_slice {V : Vw} (hV : Keeps V) : Keeps (vSlice V) := fun {w w' d cs} h k => by
  obtain ⟨a, c, e, h1, h2, h3, h4⟩ := h
  exact ⟨a, c, e, h1, h2, h3, rowAt_below hV h4 k⟩
theorem keeps_cons {f r : Vw} (hf : Keeps f) (hr : Keeps r) : Keeps (vCons f r) := fun {w w' d cs} h k => by
  obtain ⟨c1, c2, e, h1, h2, h3, h4⟩ := h
  exact ⟨c1, c2, e, h1, h2, hf h3 k, hr h4 k⟩
/-- What came in as a value of the type has the view. -/
def Opens (P : Program) (V : Vw) (t : TypeId) : Prop :=
  P.cellsOf t = V.size ∧ ∀ {H : Type} {enc : TypeId × Value → H} {W : World} {base : Nat} {sp : Nat → Bool} {held : Bool} {fuel : Nat} {cs : List Value} {x : DataW H × List MemPlace}, DataW.trod enc P W base sp held fuel t cs = some x → ∃ d, V.rd W d cs
theorem opens_int {P : Program} {t : TypeId} {k : IntKind} (h : P.underlying t = some (.int k)) (hc : P.cellsOf t = 1) : Opens P (vInt k) t := ⟨hc, fun {H enc W base sp held fuel cs x} hx => by
  obtain ⟨n, e, _, hw⟩ := DataW.trod_int h hx
  exact ⟨n, e, hw⟩⟩
theorem opens_bool {P : Program} {t : TypeId} (h : P.underlying t = some .bool) (hc : P.cellsOf t = 1) : Opens P vBool t := ⟨hc, fun {H enc W base sp held fuel cs x} hx => by
  obtain ⟨b, e, _⟩ := DataW.trod_bool h hx
  exact ⟨b, e⟩⟩
theorem opens_str {P : Program} {t : TypeId} (h : P.underlying t = some .string) (hc : P.cellsOf t = 1) : Opens P vStr t := ⟨hc, fun {H enc W base sp held fuel cs x} hx => by
  obtain ⟨s, e, _, hl⟩ := DataW.trod_string h hx
  exact ⟨s, e, hl⟩⟩
theorem cells_spot {W : World} {base n j : Nat} {a : Addr} {cs : List Value} (hj : j = 0) (h : W.cells? base (a.add (j * n)) n = some cs) (hn : 0 < n) : a.spot = none := by
  subst hj
  obtain ⟨_, hl, hcell⟩ := World.cells?_some h
  have c := hcell 0 hn
  rw [List.getElem?_eq_getElem (by omega)] at c
  simpa [Addr.add] using World.cell?_spot c
theorem list_of {α : Type} {Q : Nat → α → Prop} : ∀ l : Nat, (∀ i, i < l → ∃ d, Q i d) → ∃ ds : List α, ds.length = l ∧ ∀ i (h : i < ds.length), Q i (ds[i]'h)
  | 0, _ => ⟨[], rfl, fun i h => absurd h (Nat.not_lt_zero i)⟩
  | l + 1, h => by
    obtain ⟨ds, h1, h2⟩ := list_of l (fun i hi => h i (by omega))
    obtain ⟨d, hd⟩ := h l (by omega)
    refine ⟨ds ++ [d], by simp [h1], fun i hi => ?_⟩
    by_cases e : i < ds.length
    · rw [List.getElem_append_left e]
      exact h2 i e
    · have e2 : i = l := by simp at hi; omega
      subst e2
      have e3 : (ds ++ [d])[i]'hi = d := by
        rw [List.getElem_append_right (by omega)]
        simp [h1]
      rw [e3]
      exact hd
theorem opens_slice {P : Program} {V : Vw} {t e : TypeId} (h : P.underlying t = some (.slice e)) (hc : P.cellsOf t = 1) (hV : Opens P V e) (hs : 0 < V.size) : Opens P (vSlice V) t := ⟨hc, fun {H enc W base sp held fuel cs x} hx => by
  rcases DataW.trod_slice h hx with ⟨hcs, _⟩ | ⟨a, l, c, elems, rest, n, _, hcs, _, _, hlc, hcm, hlen, hel, _, _⟩
  · exact ⟨[], none, 0, hcs, Nat.le_refl _, Nat.zero_le _, fun _ => ⟨rfl, rfl⟩, fun i hi => absurd hi (Nat.not_lt_zero i)⟩
  · have hne : ∀ i, i < l → ∃ d : V.D, ∃ b off, some a = some (⟨b, off, none⟩ : Addr) ∧ b < W.heap.size ∧ ∃ es, es.length = V.size ∧ (∀ j, j < V.size → W.cell? ⟨b, off + i * V.size + j, none⟩ = es[j]?) ∧ V.rd W d es := fun i hi => by
      have e1 := hel i hi
      rw [List.getElem?_eq_getElem (by omega), Option.bind_eq_some_iff, hV.1] at e1
      obtain ⟨es, hcells, hx⟩ := e1
      have e0 := hel 0 (by omega)
      rw [List.getElem?_eq_getElem (by omega), Option.bind_eq_some_iff, hV.1] at e0
      obtain ⟨_, hcells0, _⟩ := e0
      obtain ⟨j, hj⟩ : ∃ j : Nat, j = 0 := ⟨0, rfl⟩
      rw [← hj] at hcells0
      have hspot := cells_spot hj hcells0 hs
      obtain ⟨d, hd⟩ := hV.2 hx
      obtain ⟨_, h2, h3⟩ := World.cells?_some hcells
      obtain ⟨b, off, spot⟩ := a
      have hspot' : spot = none := hspot
      subst hspot'
      have hb : b < W.heap.size := by
        have c0 := h3 0 hs
        rw [List.getElem?_eq_getElem (by omega), Addr.add_lit, Addr.add_lit] at c0
        exact World.block_lt_of_cell? _ _ c0
      exact ⟨d, b, off, rfl, hb, es, h2, fun j hj => by have := h3 j hj; rwa [Addr.add_lit, Addr.add_lit] at this, hd⟩
    obtain ⟨ds, h1, h2⟩ := list_of l hne
    subst h1
    exact ⟨ds, some a, c, hcs, hlc, hcm, (fun e => by cases e), h2⟩⟩
/-- The fields of a struct from an offset on have the view. -/
def FOpens (P : Program) (V : Vw) (fs : List Field) (off : Nat) : Prop :=
  ∀ {H : Type} {enc : TypeId × Value → H} {W : World} {base : Nat} {sp : Nat → Bool} {held : Bool} {n : Nat} {cs : List Value} {xs : List (DataW H × List MemPlace)},
    (∀ (i : Nat) (f : Field), fs[i]? = some f → DataW.trod enc P W base sp held n f.type ((cs.drop f.offset).take (P.cellsOf f.type)) = xs[i]?) → fs.length ≤ xs.length → cs.length = off + V.size → ∃ d, V.rd W d (cs.drop off)
theorem fopens_nil (P : Program) (off : Nat) : FOpens P vNil [] off := fun {H enc W base sp held n cs xs} _ _ hl => ⟨(), List.drop_eq_nil_of_le (by rw [hl]; exact Nat.le_refl _)⟩
theorem fopens_cons {P : Program} {V R : Vw} {f : Field} {fs : List Field} {off : Nat} (ho : f.offset = off) (hV : Opens P V f.type) (hR : FOpens P R fs (off + V.size)) : FOpens P (vCons V R) (f :: fs) off := fun {H enc W base sp held n cs xs} hx hxl hl => by
  have hl' : cs.length = off + (V.size + R.size) := hl
  cases xs with
  | nil => simp at hxl
  | cons y ys =>
    have h0 := hx 0 f rfl
    rw [ho, hV.1] at h0
    obtain ⟨d1, hd1⟩ := hV.2 (x := y) h0
    obtain ⟨d2, hd2⟩ := hR (xs := ys) (fun i g hg => hx (i + 1) g hg) (by simpa using hxl) (by omega)
    refine ⟨(d1, d2), (cs.drop off).take V.size, cs.drop (off + V.size), ?_, ?_, ?_, hd1, hd2⟩
    · rw [← List.drop_drop, List.take_append_drop]
    · rw [List.length_take, List.length_drop]; omega
    · rw [List.length_drop]; omega
theorem opens_struct {P : Program} {V : Vw} {t : TypeId} {fs : Array Field} (h : P.underlying t = some (.struct fs)) (hc : P.cellsOf t = V.size) (hV : FOpens P V fs.toList 0) : Opens P V t := ⟨hc, fun {H enc W base sp held fuel cs x} hx => by
  obtain ⟨xs, n, _, _, hl, hn, hf⟩ := DataW.trod_struct h hx
  have := hV (xs := xs) (fun i f hi => hf i f (by simpa using hi)) (by simp [hn]) (by omega)
  simpa using this⟩
/-! ### Its words, where a walk asks for cells -/
theorem rd_slice {V : Vw} {w : World} {ds : List V.D} {cs : List Value} (h : (vSlice V).rd w ds cs) : ∃ a c, cs = [.slice a ds.length c] ∧ ds.length ≤ c ∧ c ≤ maxLen ∧ (a = none → ds.length = 0 ∧ c = 0) ∧ rowAt V w a ds := h
theorem rd_one {V : Vw} {w : World} {d : V.D} {es : List Value} (h : V.rd w d es) : V.rd w d es := h
end Go.Proofs.Ythaliiffgkcahaa
