import Derived.ChangeArms
import Derived.Below
import Derived.WalkKit
import Derived.Outline
import Derived.SizedLaws
import Derived.Laws.BitsLemmas
import Derived.Test.YtnbmecabnkhniaaDoorProg
import Derived.Deep.LoopGhost
import Derived.Lib.Hide
import Derived.WalkLawsBesides
import Derived.WalkSpells
/- Views of what came in, of whatever depth: put together of views of parts. No program in sight. -/
namespace Go.Proofs.YtnbmecabnkhniaaDoor
open Go.RowKit
/-- How values of a type stand in memory: data, cells, and what they mean. -/
structure Vw : Type 1 where
  D : Type
  size : Nat
  rd : World → D → List Value → Prop
def vInt (k : IntKind) : Vw := ⟨Int, 1, fun _ n cs => cs = [.int k n] ∧ (Lit.int k n).wf = true⟩
def vBool : Vw := ⟨Bool, 1, fun _ b cs => cs = [.bool b]⟩
def vStr : Vw := ⟨ByteArray, 1, fun _ s cs => cs = [.string s] ∧ s.size ≤ maxLen⟩
/-- What stands at a place, a part behind the other. -/
def rowAt (V : Vw) (w : World) (a : Option Addr) (ds : List V.D) : Prop :=
  ∀ i (h : i < ds.length), ∃ b off, a = some ⟨b, off, none⟩ ∧ b < w.heap.size ∧ ∃ es, es.length = V.size ∧ (∀ j, j < V.size → w.cell? ⟨b, off + i * V.size + j, none⟩ = es[j]?) ∧ V.rd w (ds[i]'h) es
def vSlice (V : Vw) : Vw := ⟨List V.D, 1, fun w ds cs => ∃ a c, cs = [.slice a ds.length c] ∧ ds.length ≤ c ∧ c ≤ maxLen ∧ (a = none → ds.length = 0 ∧ c = 0) ∧ rowAt V w a ds⟩
def vNil : Vw := ⟨Unit, 0, fun _ _ cs => cs = []⟩
def vCons (f r : Vw) : Vw := ⟨f.D × r.D, f.size + r.size, fun w d cs => ∃ c1 c2, cs = c1 ++ c2 ∧ c1.length = f.size ∧ c2.length = r.size ∧ f.rd w d.1 c1 ∧ r.rd w d.2 c2⟩
/-- It stays, whatever is done to other memory. -/
def Keeps (V : Vw) : Prop := ∀ {w w' : World} {d : V.D} {cs : List Value}, V.rd w d cs → Below w.heap.size w w' → V.rd w' d cs
theorem keeps_int (k : IntKind) : Keeps (vInt k) := fun h _ => h
theorem keeps_bool : Keeps vBool := fun h _ => h
theorem keeps_str : Keeps vStr := fun h _ => h
theorem keeps_nil : Keeps vNil := fun h _ => h
theorem rowAt_below {V : Vw} (hV : Keeps V) {w w' : World} {a : Option Addr} {ds : List V.D} (h : rowAt V w a ds) (k : Below w.heap.size w w') : rowAt V w' a ds := fun i hi => by
  obtain ⟨b, off, e, hb, es, h1, h2, h3⟩ := h i hi
  exact ⟨b, off, e, Nat.lt_of_lt_of_le hb k.size, es, h1, fun j hj => (k.cell (p := ⟨b, _, none⟩) hb).trans (h2 j hj), hV h3 k⟩
theorem keeps_slice {V : Vw} (hV : Keeps V) : Keeps (vSlice V) := fun {w w' d cs} h k => by
  obtain ⟨a, c, e, h1, h2, h3, h4⟩ := h
  exact ⟨a, c, e, h1, h2, h3, rowAt_below hV h4 k⟩
theorem keeps_cons {f r : Vw} (hf : Keeps f) (hr : Keeps r) : Keeps (vCons f r) := fun {w w' d cs} h k => by
  obtain ⟨c1, c2, e, h1, h2, h3, h4⟩ := h
  exact ⟨c1, c2, e, h1, h2, hf h3 k, hr h4 k⟩
/-- What came in as a value of the type has the view. -/
def Opens (P : Program) (V : Vw) (t : TypeId) : Prop :=
  P.cellsOf t = V.size ∧ ∀ {H : Type} {enc : TypeId × Value → H} {W : World} {base : Nat} {sp : Nat → Bool} {held : Bool} {fuel : Nat} {cs : List Value} {x : DataW H × List MemPlace}, DataW.trod enc P W base sp held fuel t cs = some x → ∃ d, V.rd W d cs
theorem opens_int {P : Program} {t : TypeId} {k : IntKind} (h : P.underlying t = some (.int k)) (hc : P.cellsOf t = 1) : Opens P (vInt k) t := ⟨hc, fun {H enc W base sp held fuel cs x} hx => by
  obtain ⟨n, e, _, hw⟩ := DataW.trod_int h hx
  exact ⟨n, e, hw⟩⟩
theorem opens_bool {P : Program} {t : TypeId} (h : P.underlying t = some .bool) (hc : P.cellsOf t = 1) : Opens P vBool t := ⟨hc, fun {H enc W base sp held fuel cs x} hx => by
  obtain ⟨b, e, _⟩ := DataW.trod_bool h hx
  exact ⟨b, e⟩⟩
theorem opens_str {P : Program} {t : TypeId} (h : P.underlying t = some .string) (hc : P.cellsOf t = 1) : Opens P vStr t := ⟨hc, fun {H enc W base sp held fuel cs x} hx => by
  obtain ⟨s, e, _, hl⟩ := DataW.trod_string h hx
  exact ⟨s, e, hl⟩⟩
theorem cells_spot {W : World} {base n j : Nat} {a : Addr} {cs : List Value} (hj : j = 0) (h : W.cells? base (a.add (j * n)) n = some cs) (hn : 0 < n) : a.spot = none := by
  subst hj
  obtain ⟨_, hl, hcell⟩ := World.cells?_some h
  have c := hcell 0 hn
  rw [List.getElem?_eq_getElem (by omega)] at c
  simpa [Addr.add] using World.cell?_spot c
theorem list_of {α : Type} {Q : Nat → α → Prop} : ∀ l : Nat, (∀ i, i < l → ∃ d, Q i d) → ∃ ds : List α, ds.length = l ∧ ∀ i (h : i < ds.length), Q i (ds[i]'h)
  | 0, _ => ⟨[], rfl, fun i h => absurd h (Nat.not_lt_zero i)⟩
  | l + 1, h => by
    obtain ⟨ds, h1, h2⟩ := list_of l (fun i hi => h i (by omega))
    obtain ⟨d, hd⟩ := h l (by omega)
    refine ⟨ds ++ [d], by simp [h1], fun i hi => ?_⟩
    by_cases e : i < ds.length
    · rw [List.getElem_append_left e]
      exact h2 i e
    · have e2 : i = l := by simp at hi; omega
      subst e2
      have e3 : (ds ++ [d])[i]'hi = d := by
        rw [List.getElem_append_right (by omega)]
        simp [h1]
      rw [e3]
      exact hd
theorem opens_slice {P : Program} {V : Vw} {t e : TypeId} (h : P.underlying t = some (.slice e)) (hc : P.cellsOf t = 1) (hV : Opens P V e) (hs : 0 < V.size) : Opens P (vSlice V) t := ⟨hc, fun {H enc W base sp held fuel cs x} hx => by
  rcases DataW.trod_slice h hx with ⟨hcs, _⟩ | ⟨a, l, c, elems, rest, n, _, hcs, _, _, hlc, hcm, hlen, hel, _, _⟩
  · exact ⟨[], none, 0, hcs, Nat.le_refl _, Nat.zero_le _, fun _ => ⟨rfl, rfl⟩, fun i hi => absurd hi (Nat.not_lt_zero i)⟩
  · have hne : ∀ i, i < l → ∃ d : V.D, ∃ b off, some a = some (⟨b, off, none⟩ : Addr) ∧ b < W.heap.size ∧ ∃ es, es.length = V.size ∧ (∀ j, j < V.size → W.cell? ⟨b, off + i * V.size + j, none⟩ = es[j]?) ∧ V.rd W d es := fun i hi => by
      have e1 := hel i hi
      rw [List.getElem?_eq_getElem (by omega), Option.bind_eq_some_iff, hV.1] at e1
      obtain ⟨es, hcells, hx⟩ := e1
      have e0 := hel 0 (by omega)
      rw [List.getElem?_eq_getElem (by omega), Option.bind_eq_some_iff, hV.1] at e0
      obtain ⟨_, hcells0, _⟩ := e0
      obtain ⟨j, hj⟩ : ∃ j : Nat, j = 0 := ⟨0, rfl⟩
      rw [← hj] at hcells0
      have hspot := cells_spot hj hcells0 hs
      obtain ⟨d, hd⟩ := hV.2 hx
      obtain ⟨_, h2, h3⟩ := World.cells?_some hcells
      obtain ⟨b, off, spot⟩ := a
      have hspot' : spot = none := hspot
      subst hspot'
      have hb : b < W.heap.size := by
        have c0 := h3 0 hs
        rw [List.getElem?_eq_getElem (by omega), Addr.add_lit, Addr.add_lit] at c0
        exact World.block_lt_of_cell? _ _ c0
      exact ⟨d, b, off, rfl, hb, es, h2, fun j hj => by have := h3 j hj; rwa [Addr.add_lit, Addr.add_lit] at this, hd⟩
    obtain ⟨ds, h1, h2⟩ := list_of l hne
    subst h1
    exact ⟨ds, some a, c, hcs, hlc, hcm, (fun e => by cases e), h2⟩⟩
/-- The fields of a struct from an offset on have the view. -/
def FOpens (P : Program) (V : Vw) (fs : List Field) (off : Nat) : Prop :=
  ∀ {H : Type} {enc : TypeId × Value → H} {W : World} {base : Nat} {sp : Nat → Bool} {held : Bool} {n : Nat} {cs : List Value} {xs : List (DataW H × List MemPlace)},
    (∀ (i : Nat) (f : Field), fs[i]? = some f → DataW.trod enc P W base sp held n f.type ((cs.drop f.offset).take (P.cellsOf f.type)) = xs[i]?) → fs.length ≤ xs.length → cs.length = off + V.size → ∃ d, V.rd W d (cs.drop off)
theorem fopens_nil (P : Program) (off : Nat) : FOpens P vNil [] off := fun {H enc W base sp held n cs xs} _ _ hl => ⟨(), List.drop_eq_nil_of_le (by rw [hl]; exact Nat.le_refl _)⟩
theorem fopens_cons {P : Program} {V R : Vw} {f : Field} {fs : List Field} {off : Nat} (ho : f.offset = off) (hV : Opens P V f.type) (hR : FOpens P R fs (off + V.size)) : FOpens P (vCons V R) (f :: fs) off := fun {H enc W base sp held n cs xs} hx hxl hl => by
  have hl' : cs.length = off + (V.size + R.size) := hl
  cases xs with
  | nil => simp at hxl
  | cons y ys =>
    have h0 := hx 0 f rfl
    rw [ho, hV.1] at h0
    obtain ⟨d1, hd1⟩ := hV.2 (x := y) h0
    obtain ⟨d2, hd2⟩ := hR (xs := ys) (fun i g hg => hx (i + 1) g hg) (by simpa using hxl) (by omega)
    refine ⟨(d1, d2), (cs.drop off).take V.size, cs.drop (off + V.size), ?_, ?_, ?_, hd1, hd2⟩
    · rw [← List.drop_drop, List.take_append_drop]
    · rw [List.length_take, List.length_drop]; omega
    · rw [List.length_drop]; omega
theorem opens_struct {P : Program} {V : Vw} {t : TypeId} {fs : Array Field} (h : P.underlying t = some (.struct fs)) (hc : P.cellsOf t = V.size) (hV : FOpens P V fs.toList 0) : Opens P V t := ⟨hc, fun {H enc W base sp held fuel cs x} hx => by
  obtain ⟨xs, n, _, _, hl, hn, hf⟩ := DataW.trod_struct h hx
  have := hV (xs := xs) (fun i f hi => hf i f (by simpa using hi)) (by simp [hn]) (by omega)
  simpa using this⟩
/-! ### Its words, where a walk asks for cells -/
theorem rd_slice {V : Vw} {w : World} {ds : List V.D} {cs : List Value} (h : (vSlice V).rd w ds cs) : ∃ a c, cs = [.slice a ds.length c] ∧ ds.length ≤ c ∧ c ≤ maxLen ∧ (a = none → ds.length = 0 ∧ c = 0) ∧ rowAt V w a ds := h
theorem rd_one {V : Vw} {w : World} {d : V.D} {es : List Value} (h : V.rd w d es) : V.rd w d es := h
end Go.Proofs.YtnbmecabnkhniaaDoor
/- Views of what came in, of whatever depth, with what the form says of sizes. No program in sight. Built as V0 is, each view besides with the weights. -/
namespace Go.Proofs.YtnbmecabnkhniaaDoor
open Go.RowKit
/-- A text of no more bytes than an address space holds. -/
def zStr : Vw := ⟨ByteArray, 1, fun _ s cs => cs = [.string s] ∧ s.size ≤ reachBytes⟩
def zSlice (V : Vw) (eb : Nat) : Vw := ⟨List V.D, 1, fun w ds cs => ∃ a c, cs = [.slice a ds.length c] ∧ ds.length ≤ c ∧ c ≤ maxLen ∧ (a = none → ds.length = 0 ∧ c = 0) ∧ ds.length * eb ≤ reachBytes ∧ rowAt V w a ds⟩
theorem keeps_zstr : Keeps zStr := fun h _ => h
theorem keeps_zslice {V : Vw} {eb : Nat} (hV : Keeps V) : Keeps (zSlice V eb) := fun {w w' d cs} h k => by
  obtain ⟨a, c, e, h1, h2, h3, h5, h4⟩ := h
  exact ⟨a, c, e, h1, h2, h3, h5, rowAt_below hV h4 k⟩
def Lt {H : Type} (P : Program) (t : TypeId) (d : DataW H) : Prop := ∀ n ∈ d.weights P t, n ≤ reachBytes
/-- What came in as a value of the type, no larger than the form says, has the view. -/
def OpensZ (P : Program) (V : Vw) (t : TypeId) : Prop :=
  P.cellsOf t = V.size ∧ ∀ {H : Type} {enc : TypeId × Value → H} {W : World} {base : Nat} {sp : Nat → Bool} {held : Bool} {fuel : Nat} {cs : List Value} {x : DataW H × List MemPlace}, DataW.trod enc P W base sp held fuel t cs = some x → Lt P t x.1 → ∃ d, V.rd W d cs
theorem Opens.z {P : Program} {V : Vw} {t : TypeId} (h : Opens P V t) : OpensZ P V t := ⟨h.1, fun hx _ => h.2 hx⟩
theorem zopens_str {P : Program} {t : TypeId} (h : P.underlying t = some .string) (hc : P.cellsOf t = 1) : OpensZ P zStr t := ⟨hc, fun {H enc W base sp held fuel cs x} hx hw => by
  obtain ⟨s, e, rfl, hl⟩ := DataW.trod_string h hx
  exact ⟨s, e, hw s.size (by simp [DataW.weights])⟩⟩
theorem weights_all {H : Type} {P : Program} {e : TypeId} : ∀ {ds : List (DataW H)} {d : DataW H}, d ∈ ds → ∀ n ∈ d.weights P e, n ∈ DataW.weightsAll P e ds
  | d0 :: ds, d, hd, n, hn => by
    simp only [DataW.weightsAll, List.mem_append]
    rcases List.mem_cons.1 hd with rfl | hd
    · exact .inl hn
    · exact .inr (weights_all hd n hn)
theorem zopens_slice {P : Program} {V : Vw} {t e : TypeId} (h : P.underlying t = some (.slice e)) (hc : P.cellsOf t = 1) (hV : OpensZ P V e) (hs : 0 < V.size) : OpensZ P (zSlice V (P.bytesOf e)) t := ⟨hc, fun {H enc W base sp held fuel cs x} hx hw => by
  rcases DataW.trod_slice h hx with ⟨hcs, _⟩ | ⟨a, l, c, elems, rest, n, _, hcs, hxe, _, hlc, hcm, hlen, hel, _, _⟩
  · exact ⟨[], none, 0, hcs, Nat.le_refl _, Nat.zero_le _, fun _ => ⟨rfl, rfl⟩, by simp, fun i hi => absurd hi (Nat.not_lt_zero i)⟩
  · subst hxe
    have hwe : ∀ y ∈ elems, Lt P e y.1 := fun y hy m hm => hw m (by
      simp only [DataW.weights, h, List.mem_cons, List.mem_append]
      exact .inr (.inl (weights_all (List.mem_map_of_mem hy) m hm)))
    have hsz : l * P.bytesOf e ≤ reachBytes := by
      have := hw ((elems.length + rest.length) * P.bytesOf e) (by simp [DataW.weights, h])
      refine Nat.le_trans (Nat.mul_le_mul_right _ ?_) this
      omega
    have hne : ∀ i, i < l → ∃ d : V.D, ∃ b off, some a = some (⟨b, off, none⟩ : Addr) ∧ b < W.heap.size ∧ ∃ es, es.length = V.size ∧ (∀ j, j < V.size → W.cell? ⟨b, off + i * V.size + j, none⟩ = es[j]?) ∧ V.rd W d es := fun i hi => by
      have e1 := hel i hi
      have hy : elems[i]? = some (elems[i]'(by omega)) := List.getElem?_eq_getElem (by omega)
      rw [hy, Option.bind_eq_some_iff, hV.1] at e1
      obtain ⟨es, hcells, hx⟩ := e1
      have e0 := hel 0 (by omega)
      rw [List.getElem?_eq_getElem (by omega), Option.bind_eq_some_iff, hV.1] at e0
      obtain ⟨_, hcells0, _⟩ := e0
      obtain ⟨j, hj⟩ : ∃ j : Nat, j = 0 := ⟨0, rfl⟩
      rw [← hj] at hcells0
      have hspot := cells_spot hj hcells0 hs
      obtain ⟨d, hd⟩ := hV.2 hx (hwe _ (List.getElem_mem _))
      obtain ⟨_, h2, h3⟩ := World.cells?_some hcells
      obtain ⟨b, off, spot⟩ := a
      have hspot' : spot = none := hspot
      subst hspot'
      have hb : b < W.heap.size := by
        have c0 := h3 0 hs
        rw [List.getElem?_eq_getElem (by omega), Addr.add_lit, Addr.add_lit] at c0
        exact World.block_lt_of_cell? _ _ c0
      exact ⟨d, b, off, rfl, hb, es, h2, fun j hj => by have := h3 j hj; rwa [Addr.add_lit, Addr.add_lit] at this, hd⟩
    obtain ⟨ds, h1, h2⟩ := list_of l hne
    subst h1
    exact ⟨ds, some a, c, hcs, hlc, hcm, (fun e => by cases e), hsz, h2⟩⟩
def FOpensZ (P : Program) (V : Vw) (fs : List Field) (off : Nat) : Prop :=
  ∀ {H : Type} {enc : TypeId × Value → H} {W : World} {base : Nat} {sp : Nat → Bool} {held : Bool} {n : Nat} {cs : List Value} {xs : List (DataW H × List MemPlace)},
    (∀ (i : Nat) (f : Field), fs[i]? = some f → DataW.trod enc P W base sp held n f.type ((cs.drop f.offset).take (P.cellsOf f.type)) = xs[i]?) → fs.length ≤ xs.length → cs.length = off + V.size → (∀ m ∈ DataW.weightsEach P (fs.map (·.type)) (xs.map (·.1)), m ≤ reachBytes) → ∃ d, V.rd W d (cs.drop off)
theorem zfopens_nil (P : Program) (off : Nat) : FOpensZ P vNil [] off := fun {H enc W base sp held n cs xs} _ _ hl _ => ⟨(), List.drop_eq_nil_of_le (by rw [hl]; exact Nat.le_refl _)⟩
theorem zfopens_cons {P : Program} {V R : Vw} {f : Field} {fs : List Field} {off : Nat} (ho : f.offset = off) (hV : OpensZ P V f.type) (hR : FOpensZ P R fs (off + V.size)) : FOpensZ P (vCons V R) (f :: fs) off := fun {H enc W base sp held n cs xs} hx hxl hl hw => by
  have hl' : cs.length = off + (V.size + R.size) := hl
  cases xs with
  | nil => simp at hxl
  | cons y ys =>
    simp only [List.map_cons, DataW.weightsEach, List.mem_append] at hw
    have h0 := hx 0 f rfl
    rw [ho, hV.1] at h0
    obtain ⟨d1, hd1⟩ := hV.2 (x := y) h0 (fun m hm => hw m (.inl hm))
    obtain ⟨d2, hd2⟩ := hR (xs := ys) (fun i g hg => hx (i + 1) g hg) (by simpa using hxl) (by omega) (fun m hm => hw m (.inr hm))
    refine ⟨(d1, d2), (cs.drop off).take V.size, cs.drop (off + V.size), ?_, ?_, ?_, hd1, hd2⟩
    · rw [← List.drop_drop, List.take_append_drop]
    · rw [List.length_take, List.length_drop]; omega
    · rw [List.length_drop]; omega
theorem zopens_struct {P : Program} {V : Vw} {t : TypeId} {fs : Array Field} (h : P.underlying t = some (.struct fs)) (hc : P.cellsOf t = V.size) (hV : FOpensZ P V fs.toList 0) : OpensZ P V t := ⟨hc, fun {H enc W base sp held fuel cs x} hx hw => by
  obtain ⟨xs, n, _, rfl, hl, hn, hf⟩ := DataW.trod_struct h hx
  have := hV (xs := xs) (fun i f hi => hf i f (by simpa using hi)) (by simp [hn]) (by omega) (fun m hm => hw m (by simp only [DataW.weights, h]; exact hm))
  simpa using this⟩
theorem lt_of_sized {H : Type} {P : Program} {ts : List TypeId} {ds : List (DataW H)} (h : (DataW.weightsEach P ts ds).all (· ≤ reachBytes) = true) {j : Nat} {t : TypeId} {d : DataW H} (ht : ts[j]? = some t) (hd : ds[j]? = some d) : Lt P t d := fun n hn => by
  have := List.all_eq_true.1 h n (DataW.weights_mem_each ht hd n hn)
  simpa using this
end Go.Proofs.YtnbmecabnkhniaaDoor
/- Plain facts of texts: what code point begins at a byte, whether bytes are a text (as in layer 1). -/
namespace Go.Proofs.YtnbmecabnkhniaaDoor
open Go.RowKit

/-- The byte at a place; 0 behind the end. -/
def byt (s : ByteArray) (i : Nat) : Int := if h : i < s.size then (s[i].toNat : Int) else 0
theorem byt_range (s : ByteArray) (i : Nat) : 0 ≤ byt s i ∧ byt s i < 256 := by
  unfold byt; split
  · have := UInt8.toNat_lt s[i]; omega
  · omega
theorem byt_eq (s : ByteArray) (i : Nat) (h : i < s.size) : (s[i].toNat : Int) = byt s i := by simp [byt, h]

/-- Is a number a code point? -/
def isPt (p : Int) : Bool := decide (0 ≤ p ∧ p ≤ 1114111 ∧ (p < 55296 ∨ 57343 < p))
/-- How many bytes a code point has. -/
def szOf (p : Int) : Int := if p < 128 then 1 else if p < 2048 then 2 else if p < 65536 then 3 else 4
/-- What a first byte asks for. -/
def leadN (b : Int) : Nat := if b < 128 then 1 else if b < 192 then 0 else if b < 224 then 2 else if b < 240 then 3 else if b < 248 then 4 else 0
def leadB (b : Int) : Int := if b < 128 then b else if b < 192 then 0 else if b < 224 then b % 32 else if b < 240 then b % 16 else if b < 248 then b % 8 else 0
/-- The number behind k bytes more. -/
def acc (s : ByteArray) (a : Nat) (p : Int) : Nat → Int
  | 0 => p
  | k + 1 => acc s a p k * 64 + byt s (a + k) % 64
/-- Are the next k bytes continuing ones? -/
def conts (s : ByteArray) (a : Nat) : Nat → Bool
  | 0 => true
  | k + 1 => conts s a k && decide (a + k < s.size ∧ 128 ≤ byt s (a + k) ∧ byt s (a + k) < 192)
/-- Is there a code point at a place? -/
def decIs (s : ByteArray) (a : Nat) : Bool :=
  decide (leadN (byt s a) ≠ 0) && conts s (a + 1) (leadN (byt s a) - 1) && isPt (acc s (a + 1) (leadB (byt s a)) (leadN (byt s a) - 1)) && decide (szOf (acc s (a + 1) (leadB (byt s a)) (leadN (byt s a) - 1)) = leadN (byt s a))
/-- Its size; 0: none. -/
def decN (s : ByteArray) (a : Nat) : Int := if decIs s a then (leadN (byt s a) : Int) else 0
/-- The code point at a place. -/
def decP (s : ByteArray) (a : Nat) : Int := if decIs s a then acc s (a + 1) (leadB (byt s a)) (leadN (byt s a) - 1) else 0

theorem leadN_le (b : Int) : leadN b ≤ 4 := by unfold leadN; (repeat' split) <;> omega
theorem leadB_range (b : Int) (h0 : 0 ≤ b) (h : b < 256) : 0 ≤ leadB b ∧ leadB b < 128 := by unfold leadB; (repeat' split) <;> omega
theorem acc_range (s : ByteArray) (a : Nat) (p : Int) (h0 : 0 ≤ p) (h1 : p < 128) : ∀ k, k ≤ 3 → 0 ≤ acc s a p k ∧ acc s a p k < 33554432 := by
  intro k hk
  match k, hk with
  | 0, _ => simp [acc]; omega
  | 1, _ => simp only [acc]; omega
  | 2, _ => simp only [acc]; omega
  | 3, _ => simp only [acc]; omega

theorem wraps_i64 (n : Int) (h₀ : 0 ≤ n) (h₁ : n < 2 ^ 63) : IntKind.i64.wrap n = n := by rw [IntKind.wrap_i64]; omega
theorem and31 (x : Int) (h0 : 0 ≤ x) (h1 : x < 256) : bits .and .i64 x 31 = x % 32 := bits_mask .i64 63 (by decide) wraps_i64 5 (by decide) x h0 (by omega)
theorem and15 (x : Int) (h0 : 0 ≤ x) (h1 : x < 256) : bits .and .i64 x 15 = x % 16 := bits_mask .i64 63 (by decide) wraps_i64 4 (by decide) x h0 (by omega)
theorem and7 (x : Int) (h0 : 0 ≤ x) (h1 : x < 256) : bits .and .i64 x 7 = x % 8 := bits_mask .i64 63 (by decide) wraps_i64 3 (by decide) x h0 (by omega)
theorem and63 (x : Int) (h0 : 0 ≤ x) (h1 : x < 2 ^ 63) : bits .and .i64 x 63 = x % 64 := bits_mask .i64 63 (by decide) wraps_i64 6 (by decide) x h0 h1
theorem or6 (x y : Int) (h0 : 0 ≤ x) (h1 : x < 2 ^ 57) (h2 : 0 ≤ y) (h3 : y < 64) : bits .or .i64 (x * 64) y = x * 64 + y :=
  bits_join .i64 63 (by decide) wraps_i64 6 (x * 64) y (by omega) (by omega) (by omega) h2 h3 (by omega)
/-- b & 192 is 128 just for continuing bytes. -/
theorem and192_cont : ∀ b : Nat, b < 256 → ((b &&& 192 = 128) ↔ (128 ≤ b ∧ b < 192)) := by decide +kernel
theorem cont_test (x : Int) (h0 : 0 ≤ x) (h : x < 256) : (bits .and .i64 x 192 != 128) = !decide (128 ≤ x ∧ x < 192) := by
  obtain ⟨b, rfl⟩ := Int.eq_ofNat_of_zero_le h0
  have e : bits .and .i64 (b : Int) 192 = ((b &&& 192 : Nat) : Int) := (bits_nat .i64 63 (by decide) wraps_i64 b 192 (by omega) (by omega)).1
  rw [e]
  have := and192_cont b (by omega)
  by_cases hc : 128 ≤ b ∧ b < 192
  · have e := this.2 hc
    rw [e]; simp; omega
  · have e : ¬ (b &&& 192 = 128) := fun h => hc (this.1 h)
    have d : decide (128 ≤ (b : Int) ∧ (b : Int) < 192) = false := by simp; omega
    rw [d]
    simp only [Bool.not_false, bne_iff_ne, ne_eq]
    omega

theorem size_cut (s : ByteArray) (e : Nat) (h : e ≤ s.size) : (s.extract 0 e).size = e := by simp; omega
theorem byt_cut (s : ByteArray) (e i : Nat) (h : e ≤ s.size) (hi : i < e) : byt (s.extract 0 e) i = byt s i := by
  have hs := size_cut s e h
  unfold byt
  rw [dif_pos (by omega), dif_pos (by omega)]
  simp [ByteArray.getElem_extract]
theorem conts_size (s : ByteArray) (a : Nat) : ∀ k, 0 < k → conts s a k = true → a + k ≤ s.size := by
  intro k hk h
  match k, hk with
  | k + 1, _ =>
    simp only [conts, Bool.and_eq_true, decide_eq_true_eq] at h
    omega
theorem conts_cut (s : ByteArray) (e a : Nat) (h : e ≤ s.size) : ∀ k, a + k ≤ e → conts (s.extract 0 e) a k = conts s a k := by
  intro k
  induction k with
  | zero => intro _; rfl
  | succ k ih =>
    intro hk
    simp only [conts]
    rw [ih (by omega), byt_cut s e (a + k) h (by omega), size_cut s e h]
    congr 1
    rw [Bool.eq_iff_iff]; simp only [decide_eq_true_eq]; omega
theorem acc_cut (s : ByteArray) (e a : Nat) (p : Int) (h : e ≤ s.size) : ∀ k, a + k ≤ e → acc (s.extract 0 e) a p k = acc s a p k := by
  intro k
  induction k with
  | zero => intro _; rfl
  | succ k ih =>
    intro hk
    simp only [acc]
    rw [ih (by omega), byt_cut s e (a + k) h (by omega)]
theorem decIs_lead {s : ByteArray} {a : Nat} (h : decIs s a = true) : leadN (byt s a) ≠ 0 ∧ conts s (a + 1) (leadN (byt s a) - 1) = true := by
  simp only [decIs, Bool.and_eq_true, decide_eq_true_eq] at h
  exact ⟨h.1.1.1, h.1.1.2⟩
/-- It lies in the text. -/
theorem dec_in {s : ByteArray} {a : Nat} (ha : a < s.size) (h : decIs s a = true) : a + leadN (byt s a) ≤ s.size := by
  have h1 := (decIs_lead h).1
  have h2 := (decIs_lead h).2
  by_cases e : leadN (byt s a) = 1
  · omega
  · have := conts_size s (a + 1) _ (by omega) h2
    omega
theorem dec_cut {s : ByteArray} {a e : Nat} (h : e ≤ s.size) (ha : a + leadN (byt s a) ≤ e) (h0 : leadN (byt s a) ≠ 0) : decIs (s.extract 0 e) a = decIs s a := by
  unfold decIs
  rw [byt_cut s e a h (by omega), conts_cut s e (a + 1) h _ (by omega), acc_cut s e (a + 1) _ h _ (by omega)]
theorem decP_cut {s : ByteArray} {a e : Nat} (h : e ≤ s.size) (ha : a + leadN (byt s a) ≤ e) (h0 : leadN (byt s a) ≠ 0) : decP (s.extract 0 e) a = decP s a ∧ decN (s.extract 0 e) a = decN s a := by
  unfold decP decN
  rw [dec_cut h ha h0, byt_cut s e a h (by omega), acc_cut s e (a + 1) _ h _ (by omega)]
  exact ⟨rfl, rfl⟩
theorem decN_eq (s : ByteArray) (a : Nat) : (decIs s a = true ∧ decN s a = leadN (byt s a) ∧ leadN (byt s a) ≠ 0) ∨ (decIs s a = false ∧ decN s a = 0 ∧ decP s a = 0) := by
  cases h : decIs s a
  · exact .inr ⟨rfl, by simp [decN, h], by simp [decP, h]⟩
  · exact .inl ⟨rfl, by simp [decN, h], (decIs_lead h).1⟩
/-- Are the bytes from a place on a text? -/
def txF (s : ByteArray) : Nat → Nat → Bool
  | 0, _ => true
  | f + 1, a => if a < s.size then decIs s a && txF s f (a + leadN (byt s a)) else true
def isTx (s : ByteArray) : Bool := txF s s.size 0
theorem txF_step {s : ByteArray} {f a : Nat} (h : a < s.size) (hf : s.size - a ≤ f) : txF s f a = (decIs s a && txF s (f - 1) (a + leadN (byt s a))) := by
  match f, hf with
  | 0, hf => exact absurd hf (by omega)
  | f + 1, _ => simp only [txF]; rw [if_pos h]; rfl
theorem txF_end {s : ByteArray} {f a : Nat} (h : s.size ≤ a) : txF s f a = true := by
  match f with
  | 0 => rfl
  | f + 1 => simp only [txF]; rw [if_neg (by omega)]
/-- What Check tells. -/
def ckE (s : ByteArray) : Int := if 16384 < s.size then 4 else if isTx s then 0 else 10
end Go.Proofs.YtnbmecabnkhniaaDoor
namespace Go.Proofs.YtnbmecabnkhniaaDoor
open Go.RowKit

theorem ret2 {k l : IntKind} {a b c d : Int} (h : a = b) (g : c = d) : Ending.returned (.tuple #[.int k a, .int l c]) = .returned (.tuple #[.int k b, .int l d]) := by rw [h, g]
theorem ret_int {k : IntKind} {a b : Int} (h : a = b) : Ending.returned (.int k a) = .returned (.int k b) := by rw [h]
theorem ret_bool {a b : Bool} (h : a = b) : Ending.returned (.bool a) = .returned (.bool b) := by rw [h]
theorem ret_ib {a b : Int} {c d : Bool} (h : a = b) (g : c = d) : Ending.returned (.tuple #[.int .i64 a, .bool c]) = .returned (.tuple #[.int .i64 b, .bool d]) := by rw [h, g]

theorem lead_any (b : Int) (w : World) (h0 : 0 ≤ b) (hb : b < 256) :
    Calls Tryd.prog 43 #[.int .i64 b] w fun e w' => e = .returned (.tuple #[.int .i64 (leadN b), .int .i64 (leadB b)]) ∧ w = w' := by
  by_cases h1 : b < 128
  · go_enter Tryd.func43, Tryd.ntmps43
    go_wp2
    go_ret2
    exact ⟨ret2 (by unfold leadN; rw [if_pos (by omega)]; rfl) (by unfold leadB; rw [if_pos (by omega)]), rfl⟩
  by_cases h2 : b < 192
  · go_enter Tryd.func43, Tryd.ntmps43
    go_wp2
    go_ret2
    exact ⟨ret2 (by unfold leadN; rw [if_neg (by omega)]; rw [if_pos (by omega)]; rfl) (by unfold leadB; rw [if_neg (by omega)]; rw [if_pos (by omega)]), rfl⟩
  by_cases h3 : b < 224
  · go_enter Tryd.func43, Tryd.ntmps43
    go_wp2
    go_ret2
    exact ⟨ret2 (by unfold leadN; rw [if_neg (by omega)]; rw [if_neg (by omega)]; rw [if_pos (by omega)]; rfl) (by rw [and31 _ (by omega) (by omega)]; unfold leadB; rw [if_neg (by omega)]; rw [if_neg (by omega)]; rw [if_pos (by omega)]), rfl⟩
  by_cases h4 : b < 240
  · go_enter Tryd.func43, Tryd.ntmps43
    go_wp2
    go_ret2
    exact ⟨ret2 (by unfold leadN; rw [if_neg (by omega)]; rw [if_neg (by omega)]; rw [if_neg (by omega)]; rw [if_pos (by omega)]; rfl) (by rw [and15 _ (by omega) (by omega)]; unfold leadB; rw [if_neg (by omega)]; rw [if_neg (by omega)]; rw [if_neg (by omega)]; rw [if_pos (by omega)]), rfl⟩
  by_cases h5 : b < 248
  · go_enter Tryd.func43, Tryd.ntmps43
    go_wp2
    go_ret2
    exact ⟨ret2 (by unfold leadN; rw [if_neg (by omega)]; rw [if_neg (by omega)]; rw [if_neg (by omega)]; rw [if_neg (by omega)]; rw [if_pos (by omega)]; rfl) (by rw [and7 _ (by omega) (by omega)]; unfold leadB; rw [if_neg (by omega)]; rw [if_neg (by omega)]; rw [if_neg (by omega)]; rw [if_neg (by omega)]; rw [if_pos (by omega)]), rfl⟩
  · go_enter Tryd.func43, Tryd.ntmps43
    go_wp2
    go_ret2
    exact ⟨ret2 (by unfold leadN; rw [if_neg (by omega), if_neg (by omega), if_neg (by omega), if_neg (by omega), if_neg (by omega)]; rfl) (by unfold leadB; rw [if_neg (by omega), if_neg (by omega), if_neg (by omega), if_neg (by omega), if_neg (by omega)]), rfl⟩

theorem isPoint_any (p : Int) (w : World) :
    Calls Tryd.prog 44 #[.int .i64 p] w fun e w' => e = .returned (.bool (isPt p)) ∧ w = w' := by
  go_enter Tryd.func44, Tryd.ntmps44
  go_wp2
  all_goals
    go_ret
    refine ⟨ret_bool ?_, rfl⟩
    unfold isPt
    rw [Bool.eq_iff_iff]
    simp only [Bool.or_eq_true, decide_eq_true_eq, true_iff, Bool.false_eq_true, false_iff]
    omega
theorem sizeOf_any (p : Int) (w : World) :
    Calls Tryd.prog 45 #[.int .i64 p] w fun e w' => e = .returned (.int .i64 (szOf p)) ∧ w = w' := by
  by_cases h1 : p < 128
  · go_enter Tryd.func45, Tryd.ntmps45
    go_wp2
    go_ret
    exact ⟨ret_int (by unfold szOf; rw [if_pos h1]), rfl⟩
  by_cases h2 : p < 2048
  · go_enter Tryd.func45, Tryd.ntmps45
    go_wp2
    go_ret
    exact ⟨ret_int (by unfold szOf; rw [if_neg (by omega), if_pos h2]), rfl⟩
  by_cases h3 : p < 65536
  · go_enter Tryd.func45, Tryd.ntmps45
    go_wp2
    go_ret
    exact ⟨ret_int (by unfold szOf; rw [if_neg (by omega), if_neg (by omega), if_pos h3]), rfl⟩
  · go_enter Tryd.func45, Tryd.ntmps45
    go_wp2
    go_ret
    exact ⟨ret_int (by unfold szOf; rw [if_neg (by omega), if_neg (by omega), if_neg (by omega)]), rfl⟩

theorem next_yes (s : ByteArray) (i : Nat) (v : Int) (w : World) (pa ps : Addr) (hv : v = i) (ha : w.cell? pa = some (.int .i64 v)) (hs : w.cell? ps = some (.string s)) (hf : w.frozen? pa = false) (hlt : i < s.size) (hm : s.size ≤ maxLen) :
    Calls Tryd.prog 51 #[.pointer (some pa), .pointer (some ps)] w fun e w' => e = .returned (.tuple #[.int .i64 (byt s i), .bool true]) ∧ w.setCell pa (.int .i64 (v + 1)) = w' := by
  subst hv
  unfold maxLen at hm
  go_enter Tryd.func51, Tryd.ntmps51
  go_wp2
  go_ret2
  exact ⟨ret_ib (by rw [byt_eq]; have := byt_range s i; unfold wrap64; omega) rfl, rfl⟩
theorem next_no (s : ByteArray) (i : Nat) (v : Int) (w : World) (pa ps : Addr) (hv : v = i) (ha : w.cell? pa = some (.int .i64 v)) (hs : w.cell? ps = some (.string s)) (hlt : s.size ≤ i) :
    Calls Tryd.prog 51 #[.pointer (some pa), .pointer (some ps)] w fun e w' => e = .returned (.tuple #[.int .i64 0, .bool false]) ∧ w = w' := by
  subst hv
  go_enter Tryd.func51, Tryd.ntmps51
  go_wp2
  go_ret2
  exact ⟨rfl, rfl⟩
theorem walk_any (s : ByteArray) (i : Nat) (w : World) :
    Calls Tryd.prog 42 #[.string s, .int .i64 i] w fun e w' => e = .returned (.func (.func 51) #[] #[.pointer (some ⟨w.heap.size + 1, 0, none⟩), .pointer (some ⟨w.heap.size, 0, none⟩)]) ∧ (w.alloc (.cells #[.string s] 9)).alloc (.cells #[.int .i64 i] 3) = w' := by
  go_enter Tryd.func42, Tryd.ntmps42
  go_wp2
  go_ret
  exact ⟨rfl, rfl⟩

/-- A step of the loop: the new number, as the walk has it. -/
theorem acc_step (s : ByteArray) (a : Nat) (p : Int) (k : Nat) (h0 : 0 ≤ acc s a p k) (h1 : acc s a p k < 33554432) :
    bits .or .i64 (acc s a p k * 64) (bits .and .i64 (byt s (a + k)) 63) = acc s a p (k + 1) := by
  have hb := byt_range s (a + k)
  rw [and63 _ hb.1 (by omega), or6 _ _ h0 (by omega) (by omega) (by omega)]
  rfl
theorem dec_no {s : ByteArray} {a : Nat} (h : decIs s a = false) : decP s a = 0 ∧ decN s a = 0 := by simp [decP, decN, h]
theorem dec_yes {s : ByteArray} {a : Nat} (h : decIs s a = true) : decP s a = acc s (a + 1) (leadB (byt s a)) (leadN (byt s a) - 1) ∧ decN s a = leadN (byt s a) := by simp [decP, decN, h]
theorem conts_mono (s : ByteArray) (a : Nat) : ∀ k j, j ≤ k → conts s a k = true → conts s a j = true := by
  intro k
  induction k with
  | zero => intro j hj h; rw [Nat.le_zero.1 hj]; exact h
  | succ k ih =>
    intro j hj h
    by_cases e : j = k + 1
    · rw [e]; exact h
    · simp only [conts, Bool.and_eq_true] at h
      exact ih j (by omega) h.1
/-- A byte among the continuing ones that continues nothing: none begins. -/
theorem dec_bad {s : ByteArray} {a j : Nat} (hj : j + 1 < leadN (byt s a)) (h : ¬ (a + 1 + j < s.size ∧ 128 ≤ byt s (a + 1 + j) ∧ byt s (a + 1 + j) < 192)) : decIs s a = false := by
  by_cases hc : conts s (a + 1) (leadN (byt s a) - 1) = true
  · have := conts_mono s (a + 1) _ (j + 1) (by omega) hc
    simp only [conts, Bool.and_eq_true, decide_eq_true_eq] at this
    exact absurd this.2 h
  · simp [decIs, hc]

set_option maxHeartbeats 1000000 in
theorem decode_any (s : ByteArray) (a : Nat) (w : World) (hs : s.size ≤ maxLen) (ha : a < s.size) :
    Calls Tryd.prog 30 #[.string s, .int .i64 a] w fun e w' => e = .returned (.tuple #[.int .i64 (decP s a), .int .i64 (decN s a)]) ∧ Below w.heap.size w w' := by
  have hm := hs
  unfold maxLen at hm
  have hb := byt_range s a
  have hL := leadN_le (byt s a)
  have hB := leadB_range (byt s a) hb.1 hb.2
  obtain ⟨n, hn⟩ : ∃ n, n = leadN (byt s a) := ⟨_, rfl⟩
  obtain ⟨q, hq⟩ : ∃ q, q = leadB (byt s a) := ⟨_, rfl⟩
  have Hn := Lib.hid hn
  have Hq := Lib.hid hq
  have hrng := Lib.hid (acc_range s (a + 1) (leadB (byt s a)) hB.1 hB.2)
  clear hB
  rw [← hn] at hL
  have hbad : ∀ j, j + 1 < n → ¬ (a + 1 + j < s.size ∧ 128 ≤ byt s (a + 1 + j) ∧ byt s (a + 1 + j) < 192) → decIs s a = false := fun j h1 h2 => dec_bad (by rw [← hn]; exact h1) h2
  have Hbad := Lib.hid hbad
  clear hn hq hbad
  go_enter Tryd.func30, Tryd.ntmps30
  go_wp2_with fail
  refine (walk_any s a _).mono ?_
  rintro e w' ⟨rfl, rfl⟩
  go_wp2_with fail
  refine (next_yes s a _ _ ⟨w.heap.size + 1, 0, none⟩ ⟨w.heap.size, 0, none⟩ rfl (by simp) (by simp) (by simp) ha hs).mono ?_
  rintro e w' ⟨rfl, rfl⟩
  go_wp2_with fail
  refine (lead_any _ _ hb.1 hb.2).mono ?_
  rintro e w' ⟨rfl, rfl⟩
  rw [← Hn.out, ← Hq.out]
  go_wp2_with fail
  go_loopw [4, 5, 9] (fun p z i wr => ∃ j : Nat, j ≤ n - 1 ∧ z = .int .i64 n ∧ i = .int .i64 ((j : Int) + 1) ∧ p = .int .i64 (acc s (a + 1) q j) ∧ conts s (a + 1) j = true ∧ wr = (w.alloc (.cells #[.string s] 9)).alloc (.cells #[.int .i64 ((a : Int) + 1 + j)] 3)) (fun _ _ i _ => 5 - (intOf i).toNat)
  case atStart => exact ⟨0, by omega, rfl, rfl, rfl, rfl, by simp⟩
  case round =>
    obtain ⟨j, hj, rfl, rfl, rfl, hc, rfl⟩ := hrel
    have Hc := Lib.hid hc
    clear hc
    by_cases hlt : j + 1 < n
    · by_cases hin : a + 1 + j < s.size
      · have hbj := byt_range s (a + 1 + j)
        go_wp2_with fail
        refine (next_yes s (a + 1 + j) ((a : Int) + 1 + j) _ ⟨w.heap.size + 1, 0, none⟩ ⟨w.heap.size, 0, none⟩ (by omega) (by simp) (by simp) (by simp) hin hs).mono ?_
        rintro e w' ⟨rfl, rfl⟩
        have ht := cont_test _ hbj.1 hbj.2
        by_cases hcc : 128 ≤ byt s (a + 1 + j) ∧ byt s (a + 1 + j) < 192
        · rw [decide_eq_true hcc] at ht
          simp only [Bool.not_true] at ht
          have Hcc := Lib.hid hcc
          clear hcc
          have hr := (hrng.out j (by omega))
          rw [← Hq.out] at hr
          have hr0 := hr.1
          have hr1 := hr.2
          clear hr
          have hst := Lib.hid (acc_step s (a + 1) q j hr0 hr1)
          go_wp2_with fail
          go_roundw
          case rel =>
            refine ⟨j + 1, by omega, rfl, by go_num, ?_, ?_, ?_⟩
            · rw [← hst.out]
            · simp only [conts, Hc.out, Bool.true_and, decide_eq_true_eq]; exact ⟨hin, Hcc.out⟩
            · rw [show ((a : Int) + 1 + ((j + 1 : Nat) : Int)) = (a : Int) + 1 + j + 1 from by omega]
          case measure => simp [intOf]; omega
        · rw [decide_eq_false hcc] at ht
          simp only [Bool.not_false] at ht
          have hz := Hbad.out j hlt (fun h => hcc ⟨h.2.1, h.2.2⟩)
          have Hz := Lib.hid (dec_no hz)
          clear hz hcc
          go_wp2_with fail
          go_ret2
          exact ⟨ret2 Hz.out.1.symm Hz.out.2.symm, ((Below.refl _ _).alloc (Nat.le_refl _) _).alloc (by simp) _⟩
      · have hz := Hbad.out j hlt (fun h => hin h.1)
        have Hz := Lib.hid (dec_no hz)
        clear hz
        go_wp2_with fail
        refine (next_no s (a + 1 + j) ((a : Int) + 1 + j) _ ⟨w.heap.size + 1, 0, none⟩ ⟨w.heap.size, 0, none⟩ (by omega) (by simp) (by simp) (by omega)).mono ?_
        rintro e w' ⟨rfl, rfl⟩
        go_wp2_with fail
        go_ret2
        exact ⟨ret2 Hz.out.1.symm Hz.out.2.symm, ((Below.refl _ _).alloc (Nat.le_refl _) _).alloc (by simp) _⟩
    · by_cases hn0 : n = 0
      · subst hn0
        have hz : decIs s a = false := by unfold decIs; rw [← Hn.out]; rfl
        have Hz := Lib.hid (dec_no hz)
        clear hz
        go_wp2_with fail
        go_ret2
        exact ⟨ret2 Hz.out.1.symm Hz.out.2.symm, ((Below.refl _ _).alloc (Nat.le_refl _) _).alloc (by simp) _⟩
      · have ej : j = n - 1 := by omega
        have hd : decIs s a = (isPt (acc s (a + 1) q j) && decide (szOf (acc s (a + 1) q j) = (n : Int))) := by
          unfold decIs
          rw [← Hn.out, ← Hq.out, ← ej, Hc.out]
          simp [hn0]
        have HD := Lib.hid hd
        have EJ := Lib.hid ej
        have z0 : ((n : Int) == 0) = false := by simp; omega
        clear hd ej
        cases hp : isPt (acc s (a + 1) q j)
        · have HP := Lib.hid hp
          have Hz := Lib.hid (dec_no (s := s) (a := a) (by rw [HD.out, hp]; rfl))
          clear hp
          go_wp2_with fail
          refine (isPoint_any _ _).mono ?_
          rintro e w' ⟨rfl, rfl⟩
          rw [HP.out]
          go_wp2_with fail
          go_ret2
          exact ⟨ret2 Hz.out.1.symm Hz.out.2.symm, ((Below.refl _ _).alloc (Nat.le_refl _) _).alloc (by simp) _⟩
        · by_cases hsz : szOf (acc s (a + 1) q j) = (n : Int)
          · have HP := Lib.hid hp
            have Hy := Lib.hid (dec_yes (s := s) (a := a) (by rw [HD.out, hp, hsz]; simp))
            have hsz2 : (szOf (acc s (a + 1) q j) != (n : Int)) = false := by simp [hsz]
            clear hp hsz
            go_wp2_with fail
            refine (isPoint_any _ _).mono ?_
            rintro e w' ⟨rfl, rfl⟩
            rw [HP.out]
            go_wp2_with fail
            refine (sizeOf_any _ _).mono ?_
            rintro e w' ⟨rfl, rfl⟩
            go_wp2_with fail
            go_ret2
            exact ⟨ret2 (by rw [Hy.out.1, ← Hn.out, ← Hq.out, ← EJ.out]) (by rw [Hy.out.2, ← Hn.out]), ((Below.refl _ _).alloc (Nat.le_refl _) _).alloc (by simp) _⟩
          · have HP := Lib.hid hp
            have Hz := Lib.hid (dec_no (s := s) (a := a) (by rw [HD.out, hp]; simp [hsz]))
            have hsz2 : (szOf (acc s (a + 1) q j) != (n : Int)) = true := by simp [hsz]
            clear hp hsz
            go_wp2_with fail
            refine (isPoint_any _ _).mono ?_
            rintro e w' ⟨rfl, rfl⟩
            rw [HP.out]
            go_wp2_with fail
            refine (sizeOf_any _ _).mono ?_
            rintro e w' ⟨rfl, rfl⟩
            go_wp2_with fail
            go_ret2
            exact ⟨ret2 Hz.out.1.symm Hz.out.2.symm, ((Below.refl _ _).alloc (Nat.le_refl _) _).alloc (by simp) _⟩
theorem check_any (s : ByteArray) (w : World) (hs : s.size ≤ maxLen) :
    Calls Tryd.prog 16 #[.string s] w fun e w' => e = .returned (.int .i64 (ckE s)) ∧ Below w.heap.size w w' := by
  have hm := hs
  unfold maxLen at hm
  by_cases hbig : 16384 < s.size
  · have hc := Lib.hid (show ckE s = 4 by unfold ckE; rw [if_pos hbig])
    go_enter Tryd.func16, Tryd.ntmps16
    go_wp2_with fail
    go_ret
    exact ⟨ret_int hc.out.symm, Below.refl _ _⟩
  · have hc := Lib.hid (show ckE s = if isTx s then 0 else 10 by unfold ckE; rw [if_neg hbig])
    go_enter Tryd.func16, Tryd.ntmps16
    go_wp2_with fail
    go_loopw [2, 3] (fun _ i wr => ∃ f a : Nat, s.size - a ≤ f ∧ a ≤ s.size ∧ i = .int .i64 a ∧ txF s f a = isTx s ∧ Below w.heap.size w wr) (fun _ i _ => s.size - (intOf i).toNat)
    case atStart => exact ⟨s.size, 0, by omega, by omega, rfl, rfl, Below.refl _ _⟩
    case round =>
      obtain ⟨f, a, hf, ha, rfl, ht, hb⟩ := hrel
      by_cases hlt : a < s.size
      · rw [txF_step hlt hf] at ht
        rcases decN_eq s a with ⟨hd, hN, h0⟩ | ⟨hd, hN, _⟩
        · have hin := dec_in hlt hd
          rw [hd, Bool.true_and] at ht
          have HT := Lib.hid ht
          have HN := Lib.hid hN
          have hz : ((leadN (byt s a) : Int) == 0) = false := by simp; omega
          clear ht hN hd
          go_wp2_with fail
          refine (decode_any s a _ hs hlt).mono ?_
          rintro e w' ⟨rfl, hb'⟩
          rw [HN.out]
          go_wp2_with fail
          go_roundw
          case rel => exact ⟨f - 1, a + leadN (byt s a), by omega, hin, by go_num, HT.out, hb.trans (hb'.mono hb.size)⟩
          case measure => simp [intOf]; omega
        · rw [hd, Bool.false_and] at ht
          have HC : Hid (ckE s = 10) := Lib.hid (by rw [hc.out, ← ht]; rfl)
          have HN := Lib.hid hN
          clear ht hN hd
          go_wp2_with fail
          refine (decode_any s a _ hs hlt).mono ?_
          rintro e w' ⟨rfl, hb'⟩
          rw [HN.out]
          go_wp2_with fail
          go_ret
          exact ⟨ret_int HC.out.symm, hb.trans (hb'.mono hb.size)⟩
      · rw [txF_end (by omega)] at ht
        have HC : Hid (ckE s = 0) := Lib.hid (by rw [hc.out, ← ht]; rfl)
        clear ht
        go_wp2_with fail
        go_ret
        exact ⟨ret_int HC.out.symm, hb⟩

end Go.Proofs.YtnbmecabnkhniaaDoor
/- Plain facts of texts: the document's search for a code point (as in layer 1). -/
namespace Go.Proofs.YtnbmecabnkhniaaDoor
open Go.RowKit
/-- Next, as numbers. -/
def nxE (s : ByteArray) (i : Int) : Int := if 0 ≤ i ∧ i < s.size then (if decIs s i.toNat then 0 else 10) else 2
def nxP (s : ByteArray) (i : Int) : Int := if 0 ≤ i ∧ i < s.size then decP s i.toNat else 0
def nxN (s : ByteArray) (i : Int) : Int := if 0 ≤ i ∧ i < s.size then decN s i.toNat else 0
theorem lead_cases (b : Int) (h0 : leadN b ≠ 0) : leadN b = 1 ∧ leadB b = b ∧ b < 128 ∨ leadN b = 2 ∧ leadB b = b % 32 ∧ 192 ≤ b ∧ b < 224 ∨ leadN b = 3 ∧ leadB b = b % 16 ∧ 224 ≤ b ∧ b < 240 ∨ leadN b = 4 ∧ leadB b = b % 8 ∧ 240 ≤ b ∧ b < 248 := by
  unfold leadN leadB at *
  by_cases h1 : b < 128
  · simp [h1]
  by_cases h2 : b < 192
  · simp [h1, h2] at h0
  by_cases h3 : b < 224
  · simp [h1, h2, h3]; omega
  by_cases h4 : b < 240
  · simp [h1, h2, h3, h4]; omega
  by_cases h5 : b < 248
  · simp [h1, h2, h3, h4, h5]; omega
  · simp [h1, h2, h3, h4, h5] at h0
theorem szOf_lo {p : Int} : (szOf p = 2 → 128 ≤ p) ∧ (szOf p = 3 → 2048 ≤ p) ∧ (szOf p = 4 → 65536 ≤ p) := by
  unfold szOf
  refine ⟨fun h => ?_, fun h => ?_, fun h => ?_⟩
  all_goals (split at h <;> first | omega | (split at h <;> first | omega | (split at h <;> omega)))
/-- The bytes of a code point. -/
def enc (p : Int) : List Int :=
  if p < 128 then [p] else if p < 2048 then [192 + p / 64, 128 + p % 64] else if p < 65536 then [224 + p / 4096, 128 + p / 64 % 64, 128 + p % 64]
  else [240 + p / 262144, 128 + p / 4096 % 64, 128 + p / 64 % 64, 128 + p % 64]
/-- Numbers as bytes. -/
def mkB (L : List Int) : ByteArray := ⟨(L.map (fun x => UInt8.ofNat x.toNat)).toArray⟩
theorem isPt_range {p : Int} (h : isPt p = true) : 0 ≤ p ∧ p < 1114112 := by
  simp only [isPt, decide_eq_true_eq] at h; omega
theorem enc_range {p : Int} (h0 : 0 ≤ p) (h1 : p < 1114112) : ∀ x ∈ enc p, 0 ≤ x ∧ x < 256 := by
  intro x hx
  unfold enc at hx
  split at hx
  · simp at hx; omega
  split at hx
  · simp at hx; omega
  split at hx
  · simp at hx; omega
  · simp at hx; omega
theorem enc_len (p : Int) : 1 ≤ (enc p).length ∧ (enc p).length ≤ 4 := by
  unfold enc; (repeat' split) <;> simp
theorem mkB_size (L : List Int) : (mkB L).size = L.length := by simp [mkB, ByteArray.size]
theorem mkB_byt (L : List Int) (i : Nat) (h : i < L.length) (hr : 0 ≤ L.getD i 0 ∧ L.getD i 0 < 256) : byt (mkB L) i = L.getD i 0 := by
  unfold byt
  rw [dif_pos (by rw [mkB_size]; exact h)]
  have e : (mkB L)[i]'(by rw [mkB_size]; exact h) = UInt8.ofNat (L.getD i 0).toNat := by
    show (mkB L).data[i]'_ = _
    simp [mkB, List.getD, h]
  rw [e, UInt8.toNat_ofNat']; omega

/-- The bytes of a code point are read as it. -/
theorem dec_enc {s : ByteArray} {a : Nat} {p : Int} (hp : isPt p = true) (hs : a + (enc p).length ≤ s.size) (hb : ∀ j, j < (enc p).length → byt s (a + j) = (enc p).getD j 0) :
    decIs s a = true ∧ decP s a = p ∧ leadN (byt s a) = (enc p).length := by
  have hr := isPt_range hp
  have key : leadN (byt s a) = (enc p).length ∧ conts s (a + 1) ((enc p).length - 1) = true ∧ acc s (a + 1) (leadB (byt s a)) ((enc p).length - 1) = p ∧ szOf p = (enc p).length := by
    by_cases c1 : p < 128
    · have e : enc p = [p] := by unfold enc; rw [if_pos c1]
      rw [e] at hb hs ⊢
      have b0 : byt s a = p := by simpa using hb 0 (by simp)
      rw [b0]
      exact ⟨by unfold leadN; rw [if_pos c1]; rfl, rfl, by unfold leadB; rw [if_pos c1]; rfl, by unfold szOf; rw [if_pos c1]; rfl⟩
    by_cases c2 : p < 2048
    · have e : enc p = [192 + p / 64, 128 + p % 64] := by unfold enc; rw [if_neg c1, if_pos c2]
      rw [e] at hb hs ⊢
      simp only [List.length_cons, List.length_nil] at hs hb ⊢
      have b0 : byt s a = 192 + p / 64 := by simpa using hb 0 (by simp)
      have b1 : byt s (a + 1) = 128 + p % 64 := by simpa using hb 1 (by simp)
      refine ⟨?_, ?_, ?_, ?_⟩
      · unfold leadN; rw [b0]; (repeat' split) <;> omega
      · simp only [conts, Nat.add_zero, b1, Bool.true_and, decide_eq_true_eq]; omega
      · simp only [acc, Nat.add_zero, b1, b0, leadB]; (repeat' split) <;> omega
      · unfold szOf; (repeat' split) <;> omega
    by_cases c3 : p < 65536
    · have e : enc p = [224 + p / 4096, 128 + p / 64 % 64, 128 + p % 64] := by unfold enc; rw [if_neg c1, if_neg c2, if_pos c3]
      rw [e] at hb hs ⊢
      simp only [List.length_cons, List.length_nil] at hs hb ⊢
      have b0 : byt s a = 224 + p / 4096 := by simpa using hb 0 (by simp)
      have b1 : byt s (a + 1) = 128 + p / 64 % 64 := by simpa using hb 1 (by simp)
      have b2 : byt s (a + 1 + 1) = 128 + p % 64 := by simpa using hb 2 (by simp)
      refine ⟨?_, ?_, ?_, ?_⟩
      · unfold leadN; rw [b0]; (repeat' split) <;> omega
      · simp only [conts, Nat.add_zero, b1, b2, Bool.true_and, Bool.and_eq_true, decide_eq_true_eq]; omega
      · simp only [acc, Nat.add_zero, b1, b2, b0, leadB]; (repeat' split) <;> omega
      · unfold szOf; (repeat' split) <;> omega
    · have e : enc p = [240 + p / 262144, 128 + p / 4096 % 64, 128 + p / 64 % 64, 128 + p % 64] := by unfold enc; rw [if_neg c1, if_neg c2, if_neg c3]
      rw [e] at hb hs ⊢
      simp only [List.length_cons, List.length_nil] at hs hb ⊢
      have b0 : byt s a = 240 + p / 262144 := by simpa using hb 0 (by simp)
      have b1 : byt s (a + 1) = 128 + p / 4096 % 64 := by simpa using hb 1 (by simp)
      have b2 : byt s (a + 1 + 1) = 128 + p / 64 % 64 := by simpa using hb 2 (by simp)
      have b3 : byt s (a + 1 + 2) = 128 + p % 64 := by simpa using hb 3 (by simp)
      refine ⟨?_, ?_, ?_, ?_⟩
      · unfold leadN; rw [b0]; (repeat' split) <;> omega
      · simp only [conts, Nat.add_zero, b1, b2, b3, Bool.true_and, Bool.and_eq_true, decide_eq_true_eq]; omega
      · simp only [acc, Nat.add_zero, b1, b2, b3, b0, leadB]; (repeat' split) <;> omega
      · unfold szOf; (repeat' split) <;> omega
  obtain ⟨k1, k2, k3, k4⟩ := key
  have hl := enc_len p
  have hd : decIs s a = true := by
    simp only [decIs, k1, k2, k3, hp, k4, Bool.and_eq_true, decide_eq_true_eq, and_true]
    omega
  exact ⟨hd, by unfold decP; rw [if_pos hd, k1, k3], k1⟩
def m0 (b : Int) (z : Nat) : Int := if z = 2 then b % 32 else if z = 3 then b % 16 else if z = 4 then b % 8 else b
def numN (s : ByteArray) (a z : Nat) : Int := acc s (a + 1) (m0 (byt s a) z) (z - 1)
def tpB (s : ByteArray) (a z : Nat) : Bool := isPt (numN s a z) && decide (mkB (enc (numN s a z)) = s.extract a (a + z))

theorem byt_ext {s t : ByteArray} (hs : s.size = t.size) (h : ∀ i, i < s.size → byt s i = byt t i) : s = t := by
  apply ByteArray.ext
  apply Array.ext
  · exact hs
  · intro i h1 h2
    have h1' : i < s.size := h1
    have h2' : i < t.size := h2
    have := h i h1'
    unfold byt at this
    rw [dif_pos h1', dif_pos h2'] at this
    have e : s[i].toNat = t[i].toNat := by omega
    exact UInt8.toNat_inj.1 e
theorem byt_extract {s : ByteArray} {a z : Nat} (h : a + z ≤ s.size) (j : Nat) (hj : j < z) : byt (s.extract a (a + z)) j = byt s (a + j) := by
  have hs : (s.extract a (a + z)).size = z := by simp; omega
  unfold byt
  rw [dif_pos (by omega), dif_pos (by omega)]
  simp [ByteArray.getElem_extract]
/-- The bytes where a code point begins are that code point's. -/
theorem enc_dec {s : ByteArray} {a : Nat} (h : decIs s a = true) : (enc (decP s a)).length = leadN (byt s a) ∧ ∀ j, j < leadN (byt s a) → byt s (a + j) = (enc (decP s a)).getD j 0 := by
  have hd := h
  have hP : decP s a = acc s (a + 1) (leadB (byt s a)) (leadN (byt s a) - 1) := by unfold decP; rw [if_pos h]
  simp only [decIs, Bool.and_eq_true, decide_eq_true_eq] at hd
  obtain ⟨⟨⟨h0, hc⟩, hp⟩, hz⟩ := hd
  rw [← hP] at hp hz
  have hr := isPt_range hp
  have hb := byt_range s a
  rcases lead_cases (byt s a) h0 with ⟨e1, e2, e3⟩ | ⟨e1, e2, e3, e4⟩ | ⟨e1, e2, e3, e4⟩ | ⟨e1, e2, e3, e4⟩
  · rw [e1] at hz hP ⊢
    simp only [acc, e2, Nat.sub_self] at hP
    have : enc (decP s a) = [decP s a] := by unfold enc; rw [if_pos (by omega)]
    rw [this]
    refine ⟨rfl, fun j hj => ?_⟩
    obtain rfl : j = 0 := by omega
    simp [hP]
  · rw [e1] at hz hP hc ⊢
    simp only [acc, e2, Nat.add_zero, show 2 - 1 = 1 from rfl] at hP
    simp only [conts, Nat.add_zero, show 2 - 1 = 1 from rfl, Bool.true_and, decide_eq_true_eq] at hc
    have lo := (szOf_lo (p := decP s a)).1 hz
    have hi : decP s a < 2048 := by unfold szOf at hz; (repeat' split at hz) <;> omega
    have : enc (decP s a) = [192 + decP s a / 64, 128 + decP s a % 64] := by unfold enc; rw [if_neg (by omega), if_pos hi]
    rw [this]
    refine ⟨rfl, fun j hj => ?_⟩
    match j, hj with
    | 0, _ => simp; omega
    | 1, _ => simp; omega
  · rw [e1] at hz hP hc ⊢
    simp only [acc, e2, Nat.add_zero, show 3 - 1 = 2 from rfl] at hP
    simp only [conts, Nat.add_zero, show 3 - 1 = 2 from rfl, Bool.true_and, Bool.and_eq_true, decide_eq_true_eq] at hc
    have lo := (szOf_lo (p := decP s a)).2.1 hz
    have hi : decP s a < 65536 := by unfold szOf at hz; (repeat' split at hz) <;> omega
    have : enc (decP s a) = [224 + decP s a / 4096, 128 + decP s a / 64 % 64, 128 + decP s a % 64] := by unfold enc; rw [if_neg (by omega), if_neg (by omega), if_pos hi]
    rw [this]
    refine ⟨rfl, fun j hj => ?_⟩
    match j, hj with
    | 0, _ => simp; omega
    | 1, _ => simp; omega
    | 2, _ => simp only [show a + 2 = a + 1 + 1 from rfl]; simp; omega
  · rw [e1] at hz hP hc ⊢
    simp only [acc, e2, Nat.add_zero, show 4 - 1 = 3 from rfl] at hP
    simp only [conts, Nat.add_zero, show 4 - 1 = 3 from rfl, Bool.true_and, Bool.and_eq_true, decide_eq_true_eq] at hc
    have lo := (szOf_lo (p := decP s a)).2.2 hz
    have : enc (decP s a) = [240 + decP s a / 262144, 128 + decP s a / 4096 % 64, 128 + decP s a / 64 % 64, 128 + decP s a % 64] := by unfold enc; rw [if_neg (by omega), if_neg (by omega), if_neg (by omega)]
    rw [this]
    refine ⟨rfl, fun j hj => ?_⟩
    match j, hj with
    | 0, _ => simp; omega
    | 1, _ => simp; omega
    | 2, _ => simp only [show a + 2 = a + 1 + 1 from rfl]; simp; omega
    | 3, _ => simp only [show a + 3 = a + 1 + 2 from rfl]; simp; omega
theorem m0_lead {s : ByteArray} {a : Nat} (h : decIs s a = true) : numN s a (leadN (byt s a)) = decP s a := by
  have hP : decP s a = acc s (a + 1) (leadB (byt s a)) (leadN (byt s a) - 1) := by unfold decP; rw [if_pos h]
  rw [hP]
  unfold numN
  congr 1
  rcases lead_cases (byt s a) (decIs_lead h).1 with ⟨e1, e2, e3⟩ | ⟨e1, e2, e3, e4⟩ | ⟨e1, e2, e3, e4⟩ | ⟨e1, e2, e3, e4⟩ <;> rw [e1, e2] <;> simp [m0]
/-- So many bytes are a code point's just where one begins that has so many. -/
theorem one_iff {s : ByteArray} {a z : Nat} (hz1 : 1 ≤ z) (hs : a + z ≤ s.size) : tpB s a z = (decIs s a && decide (leadN (byt s a) = z)) := by
  rw [Bool.eq_iff_iff]
  simp only [tpB, Bool.and_eq_true, decide_eq_true_eq]
  constructor
  · rintro ⟨hp, he⟩
    have hl : (enc (numN s a z)).length = z := by
      have := congrArg ByteArray.size he
      rw [mkB_size] at this
      rw [this]; simp; omega
    have hr := isPt_range hp
    have := dec_enc (s := s) (a := a) hp (by omega) (fun j hj => by
      have h1 := byt_extract hs j (by omega)
      rw [← he, mkB_byt _ _ hj (by
        have hm : (enc (numN s a z)).getD j 0 ∈ enc (numN s a z) := by
          simp only [List.getD, List.getElem?_eq_getElem hj, Option.getD_some]; exact List.getElem_mem hj
        exact enc_range hr.1 hr.2 _ hm)] at h1
      exact h1.symm)
    exact ⟨this.1, by rw [this.2.2, hl]⟩
  · rintro ⟨hd, hz⟩
    subst hz
    rw [m0_lead hd]
    have hp : isPt (decP s a) = true := by
      have hP : decP s a = acc s (a + 1) (leadB (byt s a)) (leadN (byt s a) - 1) := by unfold decP; rw [if_pos hd]
      have hd' := hd
      simp only [decIs, Bool.and_eq_true, decide_eq_true_eq] at hd'
      rw [hP]; exact hd'.1.2
    have hr := isPt_range hp
    have he := enc_dec hd
    refine ⟨hp, byt_ext ?_ (fun i hi => ?_)⟩
    · rw [mkB_size, he.1]; simp; omega
    · rw [mkB_size] at hi
      have hm : (enc (decP s a)).getD i 0 ∈ enc (decP s a) := by
        simp only [List.getD, List.getElem?_eq_getElem hi, Option.getD_some]; exact List.getElem_mem hi
      rw [mkB_byt _ _ hi (enc_range hr.1 hr.2 _ hm), byt_extract hs i (by rw [← he.1]; exact hi), he.2 i (by rw [← he.1]; exact hi)]
def tpP (s : ByteArray) (i : Int) (z : Nat) : Int := if 0 ≤ i ∧ i + z ≤ s.size then numN s i.toNat z else 0
def tpI (s : ByteArray) (i : Int) (z : Nat) : Bool := if 0 ≤ i ∧ i + z ≤ s.size then tpB s i.toNat z else false
theorem oneI_at {s : ByteArray} {a z : Nat} (ha : a < s.size) (hz : 1 ≤ z) : tpI s (a : Int) z = (decIs s a && decide (leadN (byt s a) = z)) := by
  unfold tpI
  by_cases h : a + z ≤ s.size
  · rw [if_pos (by omega), Int.toNat_natCast, one_iff hz h]
  · rw [if_neg (by omega)]
    cases hd : decIs s a
    · rfl
    · have := dec_in ha hd
      have : leadN (byt s a) ≠ z := by omega
      simp [this]
theorem oneP_at {s : ByteArray} {a z : Nat} (ha : a < s.size) (hz : 1 ≤ z) (h : tpI s (a : Int) z = true) : tpP s (a : Int) z = decP s a ∧ decIs s a = true ∧ leadN (byt s a) = z := by
  have h2 := h
  rw [oneI_at ha hz, Bool.and_eq_true, decide_eq_true_eq] at h2
  obtain ⟨hd, rfl⟩ := h2
  have := dec_in ha hd
  refine ⟨?_, hd, rfl⟩
  unfold tpP
  rw [if_pos (by omega), Int.toNat_natCast, m0_lead hd]
/-- What the search answers where one begins, and where none does. -/
theorem nx_found {s : ByteArray} {a z : Nat} (ha : a < s.size) (hz : 1 ≤ z) (h : tpI s (a : Int) z = true) : nxP s a = tpP s a z ∧ nxN s a = z ∧ nxE s a = 0 := by
  have := oneP_at ha hz h
  have hN := decN_eq s a
  rw [this.2.1] at hN
  simp at hN
  unfold nxP nxN nxE
  rw [if_pos (by omega), if_pos (by omega), if_pos (by omega), Int.toNat_natCast, this.2.1, this.1, hN.1, this.2.2]
  exact ⟨rfl, rfl, rfl⟩
theorem nx_lost {s : ByteArray} {a : Nat} (ha : a < s.size) (h : ∀ z, 1 ≤ z → z ≤ 4 → tpI s (a : Int) z = false) : nxP s a = 0 ∧ nxN s a = 0 ∧ nxE s a = 10 := by
  have hd : decIs s a = false := by
    cases hd : decIs s a
    · rfl
    · have h0 := (decIs_lead hd).1
      have h4 := leadN_le (byt s a)
      have := h (leadN (byt s a)) (by omega) h4
      rw [oneI_at ha (by omega), hd] at this
      simp at this
  have hn := dec_no hd
  unfold nxP nxN nxE
  rw [if_pos (by omega), if_pos (by omega), if_pos (by omega), Int.toNat_natCast, hd, hn.1, hn.2]
  exact ⟨rfl, rfl, rfl⟩
end Go.Proofs.YtnbmecabnkhniaaDoor
