import Derived.ChangeArms
import Derived.Below
import Derived.WalkKit
import Derived.Outline
import Derived.SizedLaws
import Derived.Laws.BitsLemmas
import Derived.Test.YtmkkckhfdafjnaaGreatDoorProg
import Derived.Deep.LoopGhost
import Derived.Lib.Hide
import Derived.WalkLawsBesides
import Derived.WalkSpells
import Derived.BigQuiet
import Derived.Deep.RegionHeld3
import Derived.Deep.DeepCutAuto
import Derived.Deep.QuietTactic
/- Views of what came in, of whatever depth: put together of views of parts. No program in sight. -/
namespace Go.Proofs.YtmkkckhfdafjnaaGreatDoor
open Go.RowKit
/-- How values of a type stand in memory: data, cells, and what they mean. -/
structure Vw : Type 1 where
  D : Type
  size : Nat
  rd : World → D → List Value → Prop
def vInt (k : IntKind) : Vw := ⟨Int, 1, fun _ n cs => cs = [.int k n] ∧ (Lit.int k n).wf = true⟩
def vBool : Vw := ⟨Bool, 1, fun _ b cs => cs = [.bool b]⟩
def vStr : Vw := ⟨ByteArray, 1, fun _ s cs => cs = [.string s] ∧ s.size ≤ maxLen⟩
/-- What stands at a place, a part behind the other. -/
def rowAt (V : Vw) (w : World) (a : Option Addr) (ds : List V.D) : Prop :=
  ∀ i (h : i < ds.length), ∃ b off, a = some ⟨b, off, none⟩ ∧ b < w.heap.size ∧ ∃ es, es.length = V.size ∧ (∀ j, j < V.size → w.cell? ⟨b, off + i * V.size + j, none⟩ = es[j]?) ∧ V.rd w (ds[i]'h) es
def vSlice (V : Vw) : Vw := ⟨List V.D, 1, fun w ds cs => ∃ a c, cs = [.slice a ds.length c] ∧ ds.length ≤ c ∧ c ≤ maxLen ∧ (a = none → ds.length = 0 ∧ c = 0) ∧ rowAt V w a ds⟩
def vNil : Vw := ⟨Unit, 0, fun _ _ cs => cs = []⟩
def vCons (f r : Vw) : Vw := ⟨f.D × r.D, f.size + r.size, fun w d cs => ∃ c1 c2, cs = c1 ++ c2 ∧ c1.length = f.size ∧ c2.length = r.size ∧ f.rd w d.1 c1 ∧ r.rd w d.2 c2⟩
/-- It stays, whatever is done to other memory. -/
def Keeps (V : Vw) : Prop := ∀ {w w' : World} {d : V.D} {cs : List Value}, V.rd w d cs → Below w.heap.size w w' → V.rd w' d cs
theorem keeps_int (k : IntKind) : Keeps (vInt k) := fun h _ => h
theorem keeps_bool : Keeps vBool := fun h _ => h
theorem keeps_str : Keeps vStr := fun h _ => h
theorem keeps_nil : Keeps vNil := fun h _ => h
theorem rowAt_below {V : Vw} (hV : Keeps V) {w w' : World} {a : Option Addr} {ds : List V.D} (h : rowAt V w a ds) (k : Below w.heap.size w w') : rowAt V w' a ds := fun i hi => by
  obtain ⟨b, off, e, hb, es, h1, h2, h3⟩ := h i hi
  exact ⟨b, off, e, Nat.lt_of_lt_of_le hb k.size, es, h1, fun j hj => (k.cell (p := ⟨b, _, none⟩) hb).trans (h2 j hj), hV h3 k⟩
theorem keeps_slice {V : Vw} (hV : Keeps V) : Keeps (vSlice V) := fun {w w' d cs} h k => by
  obtain ⟨a, c, e, h1, h2, h3, h4⟩ := h
  exact ⟨a, c, e, h1, h2, h3, rowAt_below hV h4 k⟩
theorem keeps_cons {f r : Vw} (hf : Keeps f) (hr : Keeps r) : Keeps (vCons f r) := fun {w w' d cs} h k => by
  obtain ⟨c1, c2, e, h1, h2, h3, h4⟩ := h
  exact ⟨c1, c2, e, h1, h2, hf h3 k, hr h4 k⟩
/-- What came in as a value of the type has the view. -/
def Opens (P : Program) (V : Vw) (t : TypeId) : Prop :=
  P.cellsOf t = V.size ∧ ∀ {H : Type} {enc : TypeId × Value → H} {W : World} {base : Nat} {sp : Nat → Bool} {held : Bool} {fuel : Nat} {cs : List Value} {x : DataW H × List MemPlace}, DataW.trod enc P W base sp held fuel t cs = some x → ∃ d, V.rd W d cs
theorem opens_int {P : Program} {t : TypeId} {k : IntKind} (h : P.underlying t = some (.int k)) (hc : P.cellsOf t = 1) : Opens P (vInt k) t := ⟨hc, fun {H enc W base sp held fuel cs x} hx => by
  obtain ⟨n, e, _, hw⟩ := DataW.trod_int h hx
  exact ⟨n, e, hw⟩⟩
theorem opens_bool {P : Program} {t : TypeId} (h : P.underlying t = some .bool) (hc : P.cellsOf t = 1) : Opens P vBool t := ⟨hc, fun {H enc W base sp held fuel cs x} hx => by
  obtain ⟨b, e, _⟩ := DataW.trod_bool h hx
  exact ⟨b, e⟩⟩
theorem opens_str {P : Program} {t : TypeId} (h : P.underlying t = some .string) (hc : P.cellsOf t = 1) : Opens P vStr t := ⟨hc, fun {H enc W base sp held fuel cs x} hx => by
  obtain ⟨s, e, _, hl⟩ := DataW.trod_string h hx
  exact ⟨s, e, hl⟩⟩
theorem cells_spot {W : World} {base n j : Nat} {a : Addr} {cs : List Value} (hj : j = 0) (h : W.cells? base (a.add (j * n)) n = some cs) (hn : 0 < n) : a.spot = none := by
  subst hj
  obtain ⟨_, hl, hcell⟩ := World.cells?_some h
  have c := hcell 0 hn
  rw [List.getElem?_eq_getElem (by omega)] at c
  simpa [Addr.add] using World.cell?_spot c
theorem list_of {α : Type} {Q : Nat → α → Prop} : ∀ l : Nat, (∀ i, i < l → ∃ d, Q i d) → ∃ ds : List α, ds.length = l ∧ ∀ i (h : i < ds.length), Q i (ds[i]'h)
  | 0, _ => ⟨[], rfl, fun i h => absurd h (Nat.not_lt_zero i)⟩
  | l + 1, h => by
    obtain ⟨ds, h1, h2⟩ := list_of l (fun i hi => h i (by omega))
    obtain ⟨d, hd⟩ := h l (by omega)
    refine ⟨ds ++ [d], by simp [h1], fun i hi => ?_⟩
    by_cases e : i < ds.length
    · rw [List.getElem_append_left e]
      exact h2 i e
    · have e2 : i = l := by simp at hi; omega
      subst e2
      have e3 : (ds ++ [d])[i]'hi = d := by
        rw [List.getElem_append_right (by omega)]
        simp [h1]
      rw [e3]
      exact hd
theorem opens_slice {P : Program} {V : Vw} {t e : TypeId} (h : P.underlying t = some (.slice e)) (hc : P.cellsOf t = 1) (hV : Opens P V e) (hs : 0 < V.size) : Opens P (vSlice V) t := ⟨hc, fun {H enc W base sp held fuel cs x} hx => by
  rcases DataW.trod_slice h hx with ⟨hcs, _⟩ | ⟨a, l, c, elems, rest, n, _, hcs, _, _, hlc, hcm, hlen, hel, _, _⟩
  · exact ⟨[], none, 0, hcs, Nat.le_refl _, Nat.zero_le _, fun _ => ⟨rfl, rfl⟩, fun i hi => absurd hi (Nat.not_lt_zero i)⟩
  · have hne : ∀ i, i < l → ∃ d : V.D, ∃ b off, some a = some (⟨b, off, none⟩ : Addr) ∧ b < W.heap.size ∧ ∃ es, es.length = V.size ∧ (∀ j, j < V.size → W.cell? ⟨b, off + i * V.size + j, none⟩ = es[j]?) ∧ V.rd W d es := fun i hi => by
      have e1 := hel i hi
      rw [List.getElem?_eq_getElem (by omega), Option.bind_eq_some_iff, hV.1] at e1
      obtain ⟨es, hcells, hx⟩ := e1
      have e0 := hel 0 (by omega)
      rw [List.getElem?_eq_getElem (by omega), Option.bind_eq_some_iff, hV.1] at e0
      obtain ⟨_, hcells0, _⟩ := e0
      obtain ⟨j, hj⟩ : ∃ j : Nat, j = 0 := ⟨0, rfl⟩
      rw [← hj] at hcells0
      have hspot := cells_spot hj hcells0 hs
      obtain ⟨d, hd⟩ := hV.2 hx
      obtain ⟨_, h2, h3⟩ := World.cells?_some hcells
      obtain ⟨b, off, spot⟩ := a
      have hspot' : spot = none := hspot
      subst hspot'
      have hb : b < W.heap.size := by
        have c0 := h3 0 hs
        rw [List.getElem?_eq_getElem (by omega), Addr.add_lit, Addr.add_lit] at c0
        exact World.block_lt_of_cell? _ _ c0
      exact ⟨d, b, off, rfl, hb, es, h2, fun j hj => by have := h3 j hj; rwa [Addr.add_lit, Addr.add_lit] at this, hd⟩
    obtain ⟨ds, h1, h2⟩ := list_of l hne
    subst h1
    exact ⟨ds, some a, c, hcs, hlc, hcm, (fun e => by cases e), h2⟩⟩
/-- The fields of a struct from an offset on have the view. -/
def FOpens (P : Program) (V : Vw) (fs : List Field) (off : Nat) : Prop :=
  ∀ {H : Type} {enc : TypeId × Value → H} {W : World} {base : Nat} {sp : Nat → Bool} {held : Bool} {n : Nat} {cs : List Value} {xs : List (DataW H × List MemPlace)},
    (∀ (i : Nat) (f : Field), fs[i]? = some f → DataW.trod enc P W base sp held n f.type ((cs.drop f.offset).take (P.cellsOf f.type)) = xs[i]?) → fs.length ≤ xs.length → cs.length = off + V.size → ∃ d, V.rd W d (cs.drop off)
theorem fopens_nil (P : Program) (off : Nat) : FOpens P vNil [] off := fun {H enc W base sp held n cs xs} _ _ hl => ⟨(), List.drop_eq_nil_of_le (by rw [hl]; exact Nat.le_refl _)⟩
theorem fopens_cons {P : Program} {V R : Vw} {f : Field} {fs : List Field} {off : Nat} (ho : f.offset = off) (hV : Opens P V f.type) (hR : FOpens P R fs (off + V.size)) : FOpens P (vCons V R) (f :: fs) off := fun {H enc W base sp held n cs xs} hx hxl hl => by
  have hl' : cs.length = off + (V.size + R.size) := hl
  cases xs with
  | nil => simp at hxl
  | cons y ys =>
    have h0 := hx 0 f rfl
    rw [ho, hV.1] at h0
    obtain ⟨d1, hd1⟩ := hV.2 (x := y) h0
    obtain ⟨d2, hd2⟩ := hR (xs := ys) (fun i g hg => hx (i + 1) g hg) (by simpa using hxl) (by omega)
    refine ⟨(d1, d2), (cs.drop off).take V.size, cs.drop (off + V.size), ?_, ?_, ?_, hd1, hd2⟩
    · rw [← List.drop_drop, List.take_append_drop]
    · rw [List.length_take, List.length_drop]; omega
    · rw [List.length_drop]; omega
theorem opens_struct {P : Program} {V : Vw} {t : TypeId} {fs : Array Field} (h : P.underlying t = some (.struct fs)) (hc : P.cellsOf t = V.size) (hV : FOpens P V fs.toList 0) : Opens P V t := ⟨hc, fun {H enc W base sp held fuel cs x} hx => by
  obtain ⟨xs, n, _, _, hl, hn, hf⟩ := DataW.trod_struct h hx
  have := hV (xs := xs) (fun i f hi => hf i f (by simpa using hi)) (by simp [hn]) (by omega)
  simpa using this⟩
/-! ### Its words, where a walk asks for cells -/
theorem rd_slice {V : Vw} {w : World} {ds : List V.D} {cs : List Value} (h : (vSlice V).rd w ds cs) : ∃ a c, cs = [.slice a ds.length c] ∧ ds.length ≤ c ∧ c ≤ maxLen ∧ (a = none → ds.length = 0 ∧ c = 0) ∧ rowAt V w a ds := h
theorem rd_one {V : Vw} {w : World} {d : V.D} {es : List Value} (h : V.rd w d es) : V.rd w d es := h
end Go.Proofs.YtmkkckhfdafjnaaGreatDoor
/- Views of what came in, of whatever depth, with what the form says of sizes. No program in sight. Built as V0 is, each view besides with the weights. -/
namespace Go.Proofs.YtmkkckhfdafjnaaGreatDoor
open Go.RowKit
/-- A text of no more bytes than an address space holds. -/
def zStr : Vw := ⟨ByteArray, 1, fun _ s cs => cs = [.string s] ∧ s.size ≤ reachBytes⟩
def zSlice (V : Vw) (eb : Nat) : Vw := ⟨List V.D, 1, fun w ds cs => ∃ a c, cs = [.slice a ds.length c] ∧ ds.length ≤ c ∧ c ≤ maxLen ∧ (a = none → ds.length = 0 ∧ c = 0) ∧ ds.length * eb ≤ reachBytes ∧ rowAt V w a ds⟩
theorem keeps_zstr : Keeps zStr := fun h _ => h
theorem keeps_zslice {V : Vw} {eb : Nat} (hV : Keeps V) : Keeps (zSlice V eb) := fun {w w' d cs} h k => by
  obtain ⟨a, c, e, h1, h2, h3, h5, h4⟩ := h
  exact ⟨a, c, e, h1, h2, h3, h5, rowAt_below hV h4 k⟩
def Lt {H : Type} (P : Program) (t : TypeId) (d : DataW H) : Prop := ∀ n ∈ d.weights P t, n ≤ reachBytes
/-- What came in as a value of the type, no larger than the form says, has the view. -/
def OpensZ (P : Program) (V : Vw) (t : TypeId) : Prop :=
  P.cellsOf t = V.size ∧ ∀ {H : Type} {enc : TypeId × Value → H} {W : World} {base : Nat} {sp : Nat → Bool} {held : Bool} {fuel : Nat} {cs : List Value} {x : DataW H × List MemPlace}, DataW.trod enc P W base sp held fuel t cs = some x → Lt P t x.1 → ∃ d, V.rd W d cs
theorem Opens.z {P : Program} {V : Vw} {t : TypeId} (h : Opens P V t) : OpensZ P V t := ⟨h.1, fun hx _ => h.2 hx⟩
theorem zopens_str {P : Program} {t : TypeId} (h : P.underlying t = some .string) (hc : P.cellsOf t = 1) : OpensZ P zStr t := ⟨hc, fun {H enc W base sp held fuel cs x} hx hw => by
  obtain ⟨s, e, rfl, hl⟩ := DataW.trod_string h hx
  exact ⟨s, e, hw s.size (by simp [DataW.weights])⟩⟩
theorem weights_all {H : Type} {P : Program} {e : TypeId} : ∀ {ds : List (DataW H)} {d : DataW H}, d ∈ ds → ∀ n ∈ d.weights P e, n ∈ DataW.weightsAll P e ds
  | d0 :: ds, d, hd, n, hn => by
    simp only [DataW.weightsAll, List.mem_append]
    rcases List.mem_cons.1 hd with rfl | hd
    · exact .inl hn
    · exact .inr (weights_all hd n hn)
theorem zopens_slice {P : Program} {V : Vw} {t e : TypeId} (h : P.underlying t = some (.slice e)) (hc : P.cellsOf t = 1) (hV : OpensZ P V e) (hs : 0 < V.size) : OpensZ P (zSlice V (P.bytesOf e)) t := ⟨hc, fun {H enc W base sp held fuel cs x} hx hw => by
  rcases DataW.trod_slice h hx with ⟨hcs, _⟩ | ⟨a, l, c, elems, rest, n, _, hcs, hxe, _, hlc, hcm, hlen, hel, _, _⟩
  · exact ⟨[], none, 0, hcs, Nat.le_refl _, Nat.zero_le _, fun _ => ⟨rfl, rfl⟩, by simp, fun i hi => absurd hi (Nat.not_lt_zero i)⟩
  · subst hxe
    have hwe : ∀ y ∈ elems, Lt P e y.1 := fun y hy m hm => hw m (by
      simp only [DataW.weights, h, List.mem_cons, List.mem_append]
      exact .inr (.inl (weights_all (List.mem_map_of_mem hy) m hm)))
    have hsz : l * P.bytesOf e ≤ reachBytes := by
      have := hw ((elems.length + rest.length) * P.bytesOf e) (by simp [DataW.weights, h])
      refine Nat.le_trans (Nat.mul_le_mul_right _ ?_) this
      omega
    have hne : ∀ i, i < l → ∃ d : V.D, ∃ b off, some a = some (⟨b, off, none⟩ : Addr) ∧ b < W.heap.size ∧ ∃ es, es.length = V.size ∧ (∀ j, j < V.size → W.cell? ⟨b, off + i * V.size + j, none⟩ = es[j]?) ∧ V.rd W d es := fun i hi => by
      have e1 := hel i hi
      have hy : elems[i]? = some (elems[i]'(by omega)) := List.getElem?_eq_getElem (by omega)
      rw [hy, Option.bind_eq_some_iff, hV.1] at e1
      obtain ⟨es, hcells, hx⟩ := e1
      have e0 := hel 0 (by omega)
      rw [List.getElem?_eq_getElem (by omega), Option.bind_eq_some_iff, hV.1] at e0
      obtain ⟨_, hcells0, _⟩ := e0
      obtain ⟨j, hj⟩ : ∃ j : Nat, j = 0 := ⟨0, rfl⟩
      rw [← hj] at hcells0
      have hspot := cells_spot hj hcells0 hs
      obtain ⟨d, hd⟩ := hV.2 hx (hwe _ (List.getElem_mem _))
      obtain ⟨_, h2, h3⟩ := World.cells?_some hcells
      obtain ⟨b, off, spot⟩ := a
      have hspot' : spot = none := hspot
      subst hspot'
      have hb : b < W.heap.size := by
        have c0 := h3 0 hs
        rw [List.getElem?_eq_getElem (by omega), Addr.add_lit, Addr.add_lit] at c0
        exact World.block_lt_of_cell? _ _ c0
      exact ⟨d, b, off, rfl, hb, es, h2, fun j hj => by have := h3 j hj; rwa [Addr.add_lit, Addr.add_lit] at this, hd⟩
    obtain ⟨ds, h1, h2⟩ := list_of l hne
    subst h1
    exact ⟨ds, some a, c, hcs, hlc, hcm, (fun e => by cases e), hsz, h2⟩⟩
def FOpensZ (P : Program) (V : Vw) (fs : List Field) (off : Nat) : Prop :=
  ∀ {H : Type} {enc : TypeId × Value → H} {W : World} {base : Nat} {sp : Nat → Bool} {held : Bool} {n : Nat} {cs : List Value} {xs : List (DataW H × List MemPlace)},
    (∀ (i : Nat) (f : Field), fs[i]? = some f → DataW.trod enc P W base sp held n f.type ((cs.drop f.offset).take (P.cellsOf f.type)) = xs[i]?) → fs.length ≤ xs.length → cs.length = off + V.size → (∀ m ∈ DataW.weightsEach P (fs.map (·.type)) (xs.map (·.1)), m ≤ reachBytes) → ∃ d, V.rd W d (cs.drop off)
theorem zfopens_nil (P : Program) (off : Nat) : FOpensZ P vNil [] off := fun {H enc W base sp held n cs xs} _ _ hl _ => ⟨(), List.drop_eq_nil_of_le (by rw [hl]; exact Nat.le_refl _)⟩
theorem zfopens_cons {P : Program} {V R : Vw} {f : Field} {fs : List Field} {off : Nat} (ho : f.offset = off) (hV : OpensZ P V f.type) (hR : FOpensZ P R fs (off + V.size)) : FOpensZ P (vCons V R) (f :: fs) off := fun {H enc W base sp held n cs xs} hx hxl hl hw => by
  have hl' : cs.length = off + (V.size + R.size) := hl
  cases xs with
  | nil => simp at hxl
  | cons y ys =>
    simp only [List.map_cons, DataW.weightsEach, List.mem_append] at hw
    have h0 := hx 0 f rfl
    rw [ho, hV.1] at h0
    obtain ⟨d1, hd1⟩ := hV.2 (x := y) h0 (fun m hm => hw m (.inl hm))
    obtain ⟨d2, hd2⟩ := hR (xs := ys) (fun i g hg => hx (i + 1) g hg) (by simpa using hxl) (by omega) (fun m hm => hw m (.inr hm))
    refine ⟨(d1, d2), (cs.drop off).take V.size, cs.drop (off + V.size), ?_, ?_, ?_, hd1, hd2⟩
    · rw [← List.drop_drop, List.take_append_drop]
    · rw [List.length_take, List.length_drop]; omega
    · rw [List.length_drop]; omega
theorem zopens_struct {P : Program} {V : Vw} {t : TypeId} {fs : Array Field} (h : P.underlying t = some (.struct fs)) (hc : P.cellsOf t = V.size) (hV : FOpensZ P V fs.toList 0) : OpensZ P V t := ⟨hc, fun {H enc W base sp held fuel cs x} hx hw => by
  obtain ⟨xs, n, _, rfl, hl, hn, hf⟩ := DataW.trod_struct h hx
  have := hV (xs := xs) (fun i f hi => hf i f (by simpa using hi)) (by simp [hn]) (by omega) (fun m hm => hw m (by simp only [DataW.weights, h]; exact hm))
  simpa using this⟩
theorem lt_of_sized {H : Type} {P : Program} {ts : List TypeId} {ds : List (DataW H)} (h : (DataW.weightsEach P ts ds).all (· ≤ reachBytes) = true) {j : Nat} {t : TypeId} {d : DataW H} (ht : ts[j]? = some t) (hd : ds[j]? = some d) : Lt P t d := fun n hn => by
  have := List.all_eq_true.1 h n (DataW.weights_mem_each ht hd n hn)
  simpa using this
end Go.Proofs.YtmkkckhfdafjnaaGreatDoor
/- Plain facts of texts: what code point begins at a byte, whether bytes are a text (as in layer 1). -/
namespace Go.Proofs.YtmkkckhfdafjnaaGreatDoor
open Go.RowKit

/-- The byte at a place; 0 behind the end. -/
def byt (s : ByteArray) (i : Nat) : Int := if h : i < s.size then (s[i].toNat : Int) else 0
theorem byt_range (s : ByteArray) (i : Nat) : 0 ≤ byt s i ∧ byt s i < 256 := by
  unfold byt; split
  · have := UInt8.toNat_lt s[i]; omega
  · omega
theorem byt_eq (s : ByteArray) (i : Nat) (h : i < s.size) : (s[i].toNat : Int) = byt s i := by simp [byt, h]

/-- Is a number a code point? -/
def isPt (p : Int) : Bool := decide (0 ≤ p ∧ p ≤ 1114111 ∧ (p < 55296 ∨ 57343 < p))
/-- How many bytes a code point has. -/
def szOf (p : Int) : Int := if p < 128 then 1 else if p < 2048 then 2 else if p < 65536 then 3 else 4
/-- What a first byte asks for. -/
def leadN (b : Int) : Nat := if b < 128 then 1 else if b < 192 then 0 else if b < 224 then 2 else if b < 240 then 3 else if b < 248 then 4 else 0
def leadB (b : Int) : Int := if b < 128 then b else if b < 192 then 0 else if b < 224 then b % 32 else if b < 240 then b % 16 else if b < 248 then b % 8 else 0
/-- The number behind k bytes more. -/
def acc (s : ByteArray) (a : Nat) (p : Int) : Nat → Int
  | 0 => p
  | k + 1 => acc s a p k * 64 + byt s (a + k) % 64
/-- Are the next k bytes continuing ones? -/
def conts (s : ByteArray) (a : Nat) : Nat → Bool
  | 0 => true
  | k + 1 => conts s a k && decide (a + k < s.size ∧ 128 ≤ byt s (a + k) ∧ byt s (a + k) < 192)
/-- Is there a code point at a place? -/
def decIs (s : ByteArray) (a : Nat) : Bool :=
  decide (leadN (byt s a) ≠ 0) && conts s (a + 1) (leadN (byt s a) - 1) && isPt (acc s (a + 1) (leadB (byt s a)) (leadN (byt s a) - 1)) && decide (szOf (acc s (a + 1) (leadB (byt s a)) (leadN (byt s a) - 1)) = leadN (byt s a))
/-- Its size; 0: none. -/
def decN (s : ByteArray) (a : Nat) : Int := if decIs s a then (leadN (byt s a) : Int) else 0
/-- The code point at a place. -/
def decP (s : ByteArray) (a : Nat) : Int := if decIs s a then acc s (a + 1) (leadB (byt s a)) (leadN (byt s a) - 1) else 0

theorem leadN_le (b : Int) : leadN b ≤ 4 := by unfold leadN; (repeat' split) <;> omega
theorem leadB_range (b : Int) (h0 : 0 ≤ b) (h : b < 256) : 0 ≤ leadB b ∧ leadB b < 128 := by unfold leadB; (repeat' split) <;> omega
theorem acc_range (s : ByteArray) (a : Nat) (p : Int) (h0 : 0 ≤ p) (h1 : p < 128) : ∀ k, k ≤ 3 → 0 ≤ acc s a p k ∧ acc s a p k < 33554432 := by
  intro k hk
  match k, hk with
  | 0, _ => simp [acc]; omega
  | 1, _ => simp only [acc]; omega
  | 2, _ => simp only [acc]; omega
  | 3, _ => simp only [acc]; omega

theorem wraps_i64 (n : Int) (h₀ : 0 ≤ n) (h₁ : n < 2 ^ 63) : IntKind.i64.wrap n = n := by rw [IntKind.wrap_i64]; omega
theorem and31 (x : Int) (h0 : 0 ≤ x) (h1 : x < 256) : bits .and .i64 x 31 = x % 32 := bits_mask .i64 63 (by decide) wraps_i64 5 (by decide) x h0 (by omega)
theorem and15 (x : Int) (h0 : 0 ≤ x) (h1 : x < 256) : bits .and .i64 x 15 = x % 16 := bits_mask .i64 63 (by decide) wraps_i64 4 (by decide) x h0 (by omega)
theorem and7 (x : Int) (h0 : 0 ≤ x) (h1 : x < 256) : bits .and .i64 x 7 = x % 8 := bits_mask .i64 63 (by decide) wraps_i64 3 (by decide) x h0 (by omega)
theorem and63 (x : Int) (h0 : 0 ≤ x) (h1 : x < 2 ^ 63) : bits .and .i64 x 63 = x % 64 := bits_mask .i64 63 (by decide) wraps_i64 6 (by decide) x h0 h1
theorem or6 (x y : Int) (h0 : 0 ≤ x) (h1 : x < 2 ^ 57) (h2 : 0 ≤ y) (h3 : y < 64) : bits .or .i64 (x * 64) y = x * 64 + y :=
  bits_join .i64 63 (by decide) wraps_i64 6 (x * 64) y (by omega) (by omega) (by omega) h2 h3 (by omega)
/-- b & 192 is 128 just for continuing bytes. -/
theorem and192_cont : ∀ b : Nat, b < 256 → ((b &&& 192 = 128) ↔ (128 ≤ b ∧ b < 192)) := by decide +kernel
theorem cont_test (x : Int) (h0 : 0 ≤ x) (h : x < 256) : (bits .and .i64 x 192 != 128) = !decide (128 ≤ x ∧ x < 192) := by
  obtain ⟨b, rfl⟩ := Int.eq_ofNat_of_zero_le h0
  have e : bits .and .i64 (b : Int) 192 = ((b &&& 192 : Nat) : Int) := (bits_nat .i64 63 (by decide) wraps_i64 b 192 (by omega) (by omega)).1
  rw [e]
  have := and192_cont b (by omega)
  by_cases hc : 128 ≤ b ∧ b < 192
  · have e := this.2 hc
    rw [e]; simp; omega
  · have e : ¬ (b &&& 192 = 128) := fun h => hc (this.1 h)
    have d : decide (128 ≤ (b : Int) ∧ (b : Int) < 192) = false := by simp; omega
    rw [d]
    simp only [Bool.not_false, bne_iff_ne, ne_eq]
    omega

theorem size_cut (s : ByteArray) (e : Nat) (h : e ≤ s.size) : (s.extract 0 e).size = e := by simp; omega
theorem byt_cut (s : ByteArray) (e i : Nat) (h : e ≤ s.size) (hi : i < e) : byt (s.extract 0 e) i = byt s i := by
  have hs := size_cut s e h
  unfold byt
  rw [dif_pos (by omega), dif_pos (by omega)]
  simp [ByteArray.getElem_extract]
theorem conts_size (s : ByteArray) (a : Nat) : ∀ k, 0 < k → conts s a k = true → a + k ≤ s.size := by
  intro k hk h
  match k, hk with
  | k + 1, _ =>
    simp only [conts, Bool.and_eq_true, decide_eq_true_eq] at h
    omega
theorem conts_cut (s : ByteArray) (e a : Nat) (h : e ≤ s.size) : ∀ k, a + k ≤ e → conts (s.extract 0 e) a k = conts s a k := by
  intro k
  induction k with
  | zero => intro _; rfl
  | succ k ih =>
    intro hk
    simp only [conts]
    rw [ih (by omega), byt_cut s e (a + k) h (by omega), size_cut s e h]
    congr 1
    rw [Bool.eq_iff_iff]; simp only [decide_eq_true_eq]; omega
theorem acc_cut (s : ByteArray) (e a : Nat) (p : Int) (h : e ≤ s.size) : ∀ k, a + k ≤ e → acc (s.extract 0 e) a p k = acc s a p k := by
  intro k
  induction k with
  | zero => intro _; rfl
  | succ k ih =>
    intro hk
    simp only [acc]
    rw [ih (by omega), byt_cut s e (a + k) h (by omega)]
theorem decIs_lead {s : ByteArray} {a : Nat} (h : decIs s a = true) : leadN (byt s a) ≠ 0 ∧ conts s (a + 1) (leadN (byt s a) - 1) = true := by
  simp only [decIs, Bool.and_eq_true, decide_eq_true_eq] at h
  exact ⟨h.1.1.1, h.1.1.2⟩
/-- It lies in the text. -/
theorem dec_in {s : ByteArray} {a : Nat} (ha : a < s.size) (h : decIs s a = true) : a + leadN (byt s a) ≤ s.size := by
  have h1 := (decIs_lead h).1
  have h2 := (decIs_lead h).2
  by_cases e : leadN (byt s a) = 1
  · omega
  · have := conts_size s (a + 1) _ (by omega) h2
    omega
theorem dec_cut {s : ByteArray} {a e : Nat} (h : e ≤ s.size) (ha : a + leadN (byt s a) ≤ e) (h0 : leadN (byt s a) ≠ 0) : decIs (s.extract 0 e) a = decIs s a := by
  unfold decIs
  rw [byt_cut s e a h (by omega), conts_cut s e (a + 1) h _ (by omega), acc_cut s e (a + 1) _ h _ (by omega)]
theorem decP_cut {s : ByteArray} {a e : Nat} (h : e ≤ s.size) (ha : a + leadN (byt s a) ≤ e) (h0 : leadN (byt s a) ≠ 0) : decP (s.extract 0 e) a = decP s a ∧ decN (s.extract 0 e) a = decN s a := by
  unfold decP decN
  rw [dec_cut h ha h0, byt_cut s e a h (by omega), acc_cut s e (a + 1) _ h _ (by omega)]
  exact ⟨rfl, rfl⟩
theorem decN_eq (s : ByteArray) (a : Nat) : (decIs s a = true ∧ decN s a = leadN (byt s a) ∧ leadN (byt s a) ≠ 0) ∨ (decIs s a = false ∧ decN s a = 0 ∧ decP s a = 0) := by
  cases h : decIs s a
  · exact .inr ⟨rfl, by simp [decN, h], by simp [decP, h]⟩
  · exact .inl ⟨rfl, by simp [decN, h], (decIs_lead h).1⟩
/-- Are the bytes from a place on a text? -/
def txF (s : ByteArray) : Nat → Nat → Bool
  | 0, _ => true
  | f + 1, a => if a < s.size then decIs s a && txF s f (a + leadN (byt s a)) else true
def isTx (s : ByteArray) : Bool := txF s s.size 0
theorem txF_step {s : ByteArray} {f a : Nat} (h : a < s.size) (hf : s.size - a ≤ f) : txF s f a = (decIs s a && txF s (f - 1) (a + leadN (byt s a))) := by
  match f, hf with
  | 0, hf => exact absurd hf (by omega)
  | f + 1, _ => simp only [txF]; rw [if_pos h]; rfl
theorem txF_end {s : ByteArray} {f a : Nat} (h : s.size ≤ a) : txF s f a = true := by
  match f with
  | 0 => rfl
  | f + 1 => simp only [txF]; rw [if_neg (by omega)]
/-- What Check tells. -/
def ckE (s : ByteArray) : Int := if 16384 < s.size then 4 else if isTx s then 0 else 10
end Go.Proofs.YtmkkckhfdafjnaaGreatDoor
namespace Go.Proofs.YtmkkckhfdafjnaaGreatDoor
open Go.RowKit

theorem ret2 {k l : IntKind} {a b c d : Int} (h : a = b) (g : c = d) : Ending.returned (.tuple #[.int k a, .int l c]) = .returned (.tuple #[.int k b, .int l d]) := by rw [h, g]
theorem ret_int {k : IntKind} {a b : Int} (h : a = b) : Ending.returned (.int k a) = .returned (.int k b) := by rw [h]
theorem ret_bool {a b : Bool} (h : a = b) : Ending.returned (.bool a) = .returned (.bool b) := by rw [h]
theorem ret_ib {a b : Int} {c d : Bool} (h : a = b) (g : c = d) : Ending.returned (.tuple #[.int .i64 a, .bool c]) = .returned (.tuple #[.int .i64 b, .bool d]) := by rw [h, g]

theorem lead_any (b : Int) (w : World) (h0 : 0 ≤ b) (hb : b < 256) :
    Calls Tryz.prog 71 #[.int .i64 b] w fun e w' => e = .returned (.tuple #[.int .i64 (leadN b), .int .i64 (leadB b)]) ∧ w = w' := by
  by_cases h1 : b < 128
  · go_enter Tryz.func71, Tryz.ntmps71
    go_wp2
    go_ret2
    exact ⟨ret2 (by unfold leadN; rw [if_pos (by omega)]; rfl) (by unfold leadB; rw [if_pos (by omega)]), rfl⟩
  by_cases h2 : b < 192
  · go_enter Tryz.func71, Tryz.ntmps71
    go_wp2
    go_ret2
    exact ⟨ret2 (by unfold leadN; rw [if_neg (by omega)]; rw [if_pos (by omega)]; rfl) (by unfold leadB; rw [if_neg (by omega)]; rw [if_pos (by omega)]), rfl⟩
  by_cases h3 : b < 224
  · go_enter Tryz.func71, Tryz.ntmps71
    go_wp2
    go_ret2
    exact ⟨ret2 (by unfold leadN; rw [if_neg (by omega)]; rw [if_neg (by omega)]; rw [if_pos (by omega)]; rfl) (by rw [and31 _ (by omega) (by omega)]; unfold leadB; rw [if_neg (by omega)]; rw [if_neg (by omega)]; rw [if_pos (by omega)]), rfl⟩
  by_cases h4 : b < 240
  · go_enter Tryz.func71, Tryz.ntmps71
    go_wp2
    go_ret2
    exact ⟨ret2 (by unfold leadN; rw [if_neg (by omega)]; rw [if_neg (by omega)]; rw [if_neg (by omega)]; rw [if_pos (by omega)]; rfl) (by rw [and15 _ (by omega) (by omega)]; unfold leadB; rw [if_neg (by omega)]; rw [if_neg (by omega)]; rw [if_neg (by omega)]; rw [if_pos (by omega)]), rfl⟩
  by_cases h5 : b < 248
  · go_enter Tryz.func71, Tryz.ntmps71
    go_wp2
    go_ret2
    exact ⟨ret2 (by unfold leadN; rw [if_neg (by omega)]; rw [if_neg (by omega)]; rw [if_neg (by omega)]; rw [if_neg (by omega)]; rw [if_pos (by omega)]; rfl) (by rw [and7 _ (by omega) (by omega)]; unfold leadB; rw [if_neg (by omega)]; rw [if_neg (by omega)]; rw [if_neg (by omega)]; rw [if_neg (by omega)]; rw [if_pos (by omega)]), rfl⟩
  · go_enter Tryz.func71, Tryz.ntmps71
    go_wp2
    go_ret2
    exact ⟨ret2 (by unfold leadN; rw [if_neg (by omega), if_neg (by omega), if_neg (by omega), if_neg (by omega), if_neg (by omega)]; rfl) (by unfold leadB; rw [if_neg (by omega), if_neg (by omega), if_neg (by omega), if_neg (by omega), if_neg (by omega)]), rfl⟩

theorem isPoint_any (p : Int) (w : World) :
    Calls Tryz.prog 72 #[.int .i64 p] w fun e w' => e = .returned (.bool (isPt p)) ∧ w = w' := by
  go_enter Tryz.func72, Tryz.ntmps72
  go_wp2
  all_goals
    go_ret
    refine ⟨ret_bool ?_, rfl⟩
    unfold isPt
    rw [Bool.eq_iff_iff]
    simp only [Bool.or_eq_true, decide_eq_true_eq, true_iff, Bool.false_eq_true, false_iff]
    omega
theorem sizeOf_any (p : Int) (w : World) :
    Calls Tryz.prog 73 #[.int .i64 p] w fun e w' => e = .returned (.int .i64 (szOf p)) ∧ w = w' := by
  by_cases h1 : p < 128
  · go_enter Tryz.func73, Tryz.ntmps73
    go_wp2
    go_ret
    exact ⟨ret_int (by unfold szOf; rw [if_pos h1]), rfl⟩
  by_cases h2 : p < 2048
  · go_enter Tryz.func73, Tryz.ntmps73
    go_wp2
    go_ret
    exact ⟨ret_int (by unfold szOf; rw [if_neg (by omega), if_pos h2]), rfl⟩
  by_cases h3 : p < 65536
  · go_enter Tryz.func73, Tryz.ntmps73
    go_wp2
    go_ret
    exact ⟨ret_int (by unfold szOf; rw [if_neg (by omega), if_neg (by omega), if_pos h3]), rfl⟩
  · go_enter Tryz.func73, Tryz.ntmps73
    go_wp2
    go_ret
    exact ⟨ret_int (by unfold szOf; rw [if_neg (by omega), if_neg (by omega), if_neg (by omega)]), rfl⟩

theorem next_yes (s : ByteArray) (i : Nat) (v : Int) (w : World) (pa ps : Addr) (hv : v = i) (ha : w.cell? pa = some (.int .i64 v)) (hs : w.cell? ps = some (.string s)) (hf : w.frozen? pa = false) (hlt : i < s.size) (hm : s.size ≤ maxLen) :
    Calls Tryz.prog 85 #[.pointer (some pa), .pointer (some ps)] w fun e w' => e = .returned (.tuple #[.int .i64 (byt s i), .bool true]) ∧ w.setCell pa (.int .i64 (v + 1)) = w' := by
  subst hv
  unfold maxLen at hm
  go_enter Tryz.func85, Tryz.ntmps85
  go_wp2
  go_ret2
  exact ⟨ret_ib (by rw [byt_eq]; have := byt_range s i; unfold wrap64; omega) rfl, rfl⟩
theorem next_no (s : ByteArray) (i : Nat) (v : Int) (w : World) (pa ps : Addr) (hv : v = i) (ha : w.cell? pa = some (.int .i64 v)) (hs : w.cell? ps = some (.string s)) (hlt : s.size ≤ i) :
    Calls Tryz.prog 85 #[.pointer (some pa), .pointer (some ps)] w fun e w' => e = .returned (.tuple #[.int .i64 0, .bool false]) ∧ w = w' := by
  subst hv
  go_enter Tryz.func85, Tryz.ntmps85
  go_wp2
  go_ret2
  exact ⟨rfl, rfl⟩
theorem walk_any (s : ByteArray) (i : Nat) (w : World) :
    Calls Tryz.prog 70 #[.string s, .int .i64 i] w fun e w' => e = .returned (.func (.func 85) #[] #[.pointer (some ⟨w.heap.size + 1, 0, none⟩), .pointer (some ⟨w.heap.size, 0, none⟩)]) ∧ (w.alloc (.cells #[.string s] 9)).alloc (.cells #[.int .i64 i] 3) = w' := by
  go_enter Tryz.func70, Tryz.ntmps70
  go_wp2
  go_ret
  exact ⟨rfl, rfl⟩

/-- A step of the loop: the new number, as the walk has it. -/
theorem acc_step (s : ByteArray) (a : Nat) (p : Int) (k : Nat) (h0 : 0 ≤ acc s a p k) (h1 : acc s a p k < 33554432) :
    bits .or .i64 (acc s a p k * 64) (bits .and .i64 (byt s (a + k)) 63) = acc s a p (k + 1) := by
  have hb := byt_range s (a + k)
  rw [and63 _ hb.1 (by omega), or6 _ _ h0 (by omega) (by omega) (by omega)]
  rfl
theorem dec_no {s : ByteArray} {a : Nat} (h : decIs s a = false) : decP s a = 0 ∧ decN s a = 0 := by simp [decP, decN, h]
theorem dec_yes {s : ByteArray} {a : Nat} (h : decIs s a = true) : decP s a = acc s (a + 1) (leadB (byt s a)) (leadN (byt s a) - 1) ∧ decN s a = leadN (byt s a) := by simp [decP, decN, h]
theorem conts_mono (s : ByteArray) (a : Nat) : ∀ k j, j ≤ k → conts s a k = true → conts s a j = true := by
  intro k
  induction k with
  | zero => intro j hj h; rw [Nat.le_zero.1 hj]; exact h
  | succ k ih =>
    intro j hj h
    by_cases e : j = k + 1
    · rw [e]; exact h
    · simp only [conts, Bool.and_eq_true] at h
      exact ih j (by omega) h.1
/-- A byte among the continuing ones that continues nothing: none begins. -/
theorem dec_bad {s : ByteArray} {a j : Nat} (hj : j + 1 < leadN (byt s a)) (h : ¬ (a + 1 + j < s.size ∧ 128 ≤ byt s (a + 1 + j) ∧ byt s (a + 1 + j) < 192)) : decIs s a = false := by
  by_cases hc : conts s (a + 1) (leadN (byt s a) - 1) = true
  · have := conts_mono s (a + 1) _ (j + 1) (by omega) hc
    simp only [conts, Bool.and_eq_true, decide_eq_true_eq] at this
    exact absurd this.2 h
  · simp [decIs, hc]

set_option maxHeartbeats 1000000 in
theorem decode_any (s : ByteArray) (a : Nat) (w : World) (hs : s.size ≤ maxLen) (ha : a < s.size) :
    Calls Tryz.prog 46 #[.string s, .int .i64 a] w fun e w' => e = .returned (.tuple #[.int .i64 (decP s a), .int .i64 (decN s a)]) ∧ Below w.heap.size w w' := by
  have hm := hs
  unfold maxLen at hm
  have hb := byt_range s a
  have hL := leadN_le (byt s a)
  have hB := leadB_range (byt s a) hb.1 hb.2
  obtain ⟨n, hn⟩ : ∃ n, n = leadN (byt s a) := ⟨_, rfl⟩
  obtain ⟨q, hq⟩ : ∃ q, q = leadB (byt s a) := ⟨_, rfl⟩
  have Hn := Lib.hid hn
  have Hq := Lib.hid hq
  have hrng := Lib.hid (acc_range s (a + 1) (leadB (byt s a)) hB.1 hB.2)
  clear hB
  rw [← hn] at hL
  have hbad : ∀ j, j + 1 < n → ¬ (a + 1 + j < s.size ∧ 128 ≤ byt s (a + 1 + j) ∧ byt s (a + 1 + j) < 192) → decIs s a = false := fun j h1 h2 => dec_bad (by rw [← hn]; exact h1) h2
  have Hbad := Lib.hid hbad
  clear hn hq hbad
  go_enter Tryz.func46, Tryz.ntmps46
  go_wp2_with fail
  refine (walk_any s a _).mono ?_
  rintro e w' ⟨rfl, rfl⟩
  go_wp2_with fail
  refine (next_yes s a _ _ ⟨w.heap.size + 1, 0, none⟩ ⟨w.heap.size, 0, none⟩ rfl (by simp) (by simp) (by simp) ha hs).mono ?_
  rintro e w' ⟨rfl, rfl⟩
  go_wp2_with fail
  refine (lead_any _ _ hb.1 hb.2).mono ?_
  rintro e w' ⟨rfl, rfl⟩
  rw [← Hn.out, ← Hq.out]
  go_wp2_with fail
  go_loopw [4, 5, 9] (fun p z i wr => ∃ j : Nat, j ≤ n - 1 ∧ z = .int .i64 n ∧ i = .int .i64 ((j : Int) + 1) ∧ p = .int .i64 (acc s (a + 1) q j) ∧ conts s (a + 1) j = true ∧ wr = (w.alloc (.cells #[.string s] 9)).alloc (.cells #[.int .i64 ((a : Int) + 1 + j)] 3)) (fun _ _ i _ => 5 - (intOf i).toNat)
  case atStart => exact ⟨0, by omega, rfl, rfl, rfl, rfl, by simp⟩
  case round =>
    obtain ⟨j, hj, rfl, rfl, rfl, hc, rfl⟩ := hrel
    have Hc := Lib.hid hc
    clear hc
    by_cases hlt : j + 1 < n
    · by_cases hin : a + 1 + j < s.size
      · have hbj := byt_range s (a + 1 + j)
        go_wp2_with fail
        refine (next_yes s (a + 1 + j) ((a : Int) + 1 + j) _ ⟨w.heap.size + 1, 0, none⟩ ⟨w.heap.size, 0, none⟩ (by omega) (by simp) (by simp) (by simp) hin hs).mono ?_
        rintro e w' ⟨rfl, rfl⟩
        have ht := cont_test _ hbj.1 hbj.2
        by_cases hcc : 128 ≤ byt s (a + 1 + j) ∧ byt s (a + 1 + j) < 192
        · rw [decide_eq_true hcc] at ht
          simp only [Bool.not_true] at ht
          have Hcc := Lib.hid hcc
          clear hcc
          have hr := (hrng.out j (by omega))
          rw [← Hq.out] at hr
          have hr0 := hr.1
          have hr1 := hr.2
          clear hr
          have hst := Lib.hid (acc_step s (a + 1) q j hr0 hr1)
          go_wp2_with fail
          go_roundw
          case rel =>
            refine ⟨j + 1, by omega, rfl, by go_num, ?_, ?_, ?_⟩
            · rw [← hst.out]
            · simp only [conts, Hc.out, Bool.true_and, decide_eq_true_eq]; exact ⟨hin, Hcc.out⟩
            · rw [show ((a : Int) + 1 + ((j + 1 : Nat) : Int)) = (a : Int) + 1 + j + 1 from by omega]
          case measure => simp [intOf]; omega
        · rw [decide_eq_false hcc] at ht
          simp only [Bool.not_false] at ht
          have hz := Hbad.out j hlt (fun h => hcc ⟨h.2.1, h.2.2⟩)
          have Hz := Lib.hid (dec_no hz)
          clear hz hcc
          go_wp2_with fail
          go_ret2
          exact ⟨ret2 Hz.out.1.symm Hz.out.2.symm, ((Below.refl _ _).alloc (Nat.le_refl _) _).alloc (by simp) _⟩
      · have hz := Hbad.out j hlt (fun h => hin h.1)
        have Hz := Lib.hid (dec_no hz)
        clear hz
        go_wp2_with fail
        refine (next_no s (a + 1 + j) ((a : Int) + 1 + j) _ ⟨w.heap.size + 1, 0, none⟩ ⟨w.heap.size, 0, none⟩ (by omega) (by simp) (by simp) (by omega)).mono ?_
        rintro e w' ⟨rfl, rfl⟩
        go_wp2_with fail
        go_ret2
        exact ⟨ret2 Hz.out.1.symm Hz.out.2.symm, ((Below.refl _ _).alloc (Nat.le_refl _) _).alloc (by simp) _⟩
    · by_cases hn0 : n = 0
      · subst hn0
        have hz : decIs s a = false := by unfold decIs; rw [← Hn.out]; rfl
        have Hz := Lib.hid (dec_no hz)
        clear hz
        go_wp2_with fail
        go_ret2
        exact ⟨ret2 Hz.out.1.symm Hz.out.2.symm, ((Below.refl _ _).alloc (Nat.le_refl _) _).alloc (by simp) _⟩
      · have ej : j = n - 1 := by omega
        have hd : decIs s a = (isPt (acc s (a + 1) q j) && decide (szOf (acc s (a + 1) q j) = (n : Int))) := by
          unfold decIs
          rw [← Hn.out, ← Hq.out, ← ej, Hc.out]
          simp [hn0]
        have HD := Lib.hid hd
        have EJ := Lib.hid ej
        have z0 : ((n : Int) == 0) = false := by simp; omega
        clear hd ej
        cases hp : isPt (acc s (a + 1) q j)
        · have HP := Lib.hid hp
          have Hz := Lib.hid (dec_no (s := s) (a := a) (by rw [HD.out, hp]; rfl))
          clear hp
          go_wp2_with fail
          refine (isPoint_any _ _).mono ?_
          rintro e w' ⟨rfl, rfl⟩
          rw [HP.out]
          go_wp2_with fail
          go_ret2
          exact ⟨ret2 Hz.out.1.symm Hz.out.2.symm, ((Below.refl _ _).alloc (Nat.le_refl _) _).alloc (by simp) _⟩
        · by_cases hsz : szOf (acc s (a + 1) q j) = (n : Int)
          · have HP := Lib.hid hp
            have Hy := Lib.hid (dec_yes (s := s) (a := a) (by rw [HD.out, hp, hsz]; simp))
            have hsz2 : (szOf (acc s (a + 1) q j) != (n : Int)) = false := by simp [hsz]
            clear hp hsz
            go_wp2_with fail
            refine (isPoint_any _ _).mono ?_
            rintro e w' ⟨rfl, rfl⟩
            rw [HP.out]
            go_wp2_with fail
            refine (sizeOf_any _ _).mono ?_
            rintro e w' ⟨rfl, rfl⟩
            go_wp2_with fail
            go_ret2
            exact ⟨ret2 (by rw [Hy.out.1, ← Hn.out, ← Hq.out, ← EJ.out]) (by rw [Hy.out.2, ← Hn.out]), ((Below.refl _ _).alloc (Nat.le_refl _) _).alloc (by simp) _⟩
          · have HP := Lib.hid hp
            have Hz := Lib.hid (dec_no (s := s) (a := a) (by rw [HD.out, hp]; simp [hsz]))
            have hsz2 : (szOf (acc s (a + 1) q j) != (n : Int)) = true := by simp [hsz]
            clear hp hsz
            go_wp2_with fail
            refine (isPoint_any _ _).mono ?_
            rintro e w' ⟨rfl, rfl⟩
            rw [HP.out]
            go_wp2_with fail
            refine (sizeOf_any _ _).mono ?_
            rintro e w' ⟨rfl, rfl⟩
            go_wp2_with fail
            go_ret2
            exact ⟨ret2 Hz.out.1.symm Hz.out.2.symm, ((Below.refl _ _).alloc (Nat.le_refl _) _).alloc (by simp) _⟩
theorem check_any (s : ByteArray) (w : World) (hs : s.size ≤ maxLen) :
    Calls Tryz.prog 27 #[.string s] w fun e w' => e = .returned (.int .i64 (ckE s)) ∧ Below w.heap.size w w' := by
  have hm := hs
  unfold maxLen at hm
  by_cases hbig : 16384 < s.size
  · have hc := Lib.hid (show ckE s = 4 by unfold ckE; rw [if_pos hbig])
    go_enter Tryz.func27, Tryz.ntmps27
    go_wp2_with fail
    go_ret
    exact ⟨ret_int hc.out.symm, Below.refl _ _⟩
  · have hc := Lib.hid (show ckE s = if isTx s then 0 else 10 by unfold ckE; rw [if_neg hbig])
    go_enter Tryz.func27, Tryz.ntmps27
    go_wp2_with fail
    go_loopw [2, 3] (fun _ i wr => ∃ f a : Nat, s.size - a ≤ f ∧ a ≤ s.size ∧ i = .int .i64 a ∧ txF s f a = isTx s ∧ Below w.heap.size w wr) (fun _ i _ => s.size - (intOf i).toNat)
    case atStart => exact ⟨s.size, 0, by omega, by omega, rfl, rfl, Below.refl _ _⟩
    case round =>
      obtain ⟨f, a, hf, ha, rfl, ht, hb⟩ := hrel
      by_cases hlt : a < s.size
      · rw [txF_step hlt hf] at ht
        rcases decN_eq s a with ⟨hd, hN, h0⟩ | ⟨hd, hN, _⟩
        · have hin := dec_in hlt hd
          rw [hd, Bool.true_and] at ht
          have HT := Lib.hid ht
          have HN := Lib.hid hN
          have hz : ((leadN (byt s a) : Int) == 0) = false := by simp; omega
          clear ht hN hd
          go_wp2_with fail
          refine (decode_any s a _ hs hlt).mono ?_
          rintro e w' ⟨rfl, hb'⟩
          rw [HN.out]
          go_wp2_with fail
          go_roundw
          case rel => exact ⟨f - 1, a + leadN (byt s a), by omega, hin, by go_num, HT.out, hb.trans (hb'.mono hb.size)⟩
          case measure => simp [intOf]; omega
        · rw [hd, Bool.false_and] at ht
          have HC : Hid (ckE s = 10) := Lib.hid (by rw [hc.out, ← ht]; rfl)
          have HN := Lib.hid hN
          clear ht hN hd
          go_wp2_with fail
          refine (decode_any s a _ hs hlt).mono ?_
          rintro e w' ⟨rfl, hb'⟩
          rw [HN.out]
          go_wp2_with fail
          go_ret
          exact ⟨ret_int HC.out.symm, hb.trans (hb'.mono hb.size)⟩
      · rw [txF_end (by omega)] at ht
        have HC : Hid (ckE s = 0) := Lib.hid (by rw [hc.out, ← ht]; rfl)
        clear ht
        go_wp2_with fail
        go_ret
        exact ⟨ret_int HC.out.symm, hb⟩

end Go.Proofs.YtmkkckhfdafjnaaGreatDoor
/- Plain facts of layer 3: which cells are a value. No program in sight. -/
namespace Go.Proofs.YtmkkckhfdafjnaaGreatDoor
open Go.RowKit
/-- A cell. -/
structure CR where
  k : Nat
  nm : ByteArray
  tx : ByteArray
  n : Int
  m : Int
instance : Inhabited CR := ⟨⟨0, ⟨#[]⟩, ⟨#[]⟩, 0, 0⟩⟩
def em (s : ByteArray) : Bool := decide (s.size = 0)
def letB (b : UInt8) : Bool := b == 95 || (97 ≤ b && b ≤ 122) || (65 ≤ b && b ≤ 90)
def dgB (b : UInt8) : Bool := 48 ≤ b && b ≤ 57
def nmL : List UInt8 → Bool
  | [] => false
  | b :: r => letB b && r.all fun c => letB c || dgB c
def nmB (s : ByteArray) : Bool := nmL s.data.toList
def ckB (s : ByteArray) : Bool := decide (ckE s = 0)
/-- May a cell be, but for its name? -/
def oneP (c : CR) : Bool :=
  if c.k = 0 then em c.tx && decide (c.m = 0) && decide (c.n = 0)
  else if c.k = 1 then em c.tx && decide (c.m = 0) && (decide (c.n = 0) || decide (c.n = 1))
  else if c.k = 2 then em c.tx && decide (c.m = 0)
  else if c.k = 3 then decide (c.n = 0) && decide (c.m = 0) && ckB c.tx
  else if c.k = 4 ∨ c.k = 5 then decide (c.n = 0) && decide (c.m = 0) && nmB c.tx
  else if c.k = 6 ∨ c.k = 7 then decide (c.n = 0) && em c.tx && decide (0 ≤ c.m)
  else false
def headP (c : CR) : Bool := decide (c.k = 6) || decide (c.k = 7)
/-- May an item, a member have that name? -/
def namedP (obj : Bool) (names : List ByteArray) (s : ByteArray) : Bool :=
  if obj then !names.any (fun x => decide (x = s)) && !em s && ckB s else em s
/-- Behind so many values, one behind the other. -/
def kidsF (w : Nat → Option Nat) (g : Nat → CR) (n : Nat) (obj : Bool) : Nat → List ByteArray → Nat → Option Nat
  | 0, _, a => some a
  | m + 1, names, a =>
    if n ≤ a then none else if namedP obj names (g a).nm then
      match w a with
      | none => none
      | some a' => kidsF w g n obj m (if obj then (g a).nm :: names else names) a'
    else none
/-- Behind the value that begins at a place, with at most so many in each other. -/
def wk (g : Nat → CR) (n : Nat) : Nat → Nat → Option Nat
  | 0, a => if n ≤ a then none else if oneP (g a) && !headP (g a) then some (a + 1) else none
  | r + 1, a => if n ≤ a then none else if oneP (g a) then
      if headP (g a) then kidsF (wk g n r) g n (decide ((g a).k = 7)) (g a).m.toNat [] (a + 1) else some (a + 1)
    else none
/-- Are cells a value? -/
def ckC (g : Nat → CR) (n : Nat) : Bool := decide (0 < n) && decide (n ≤ 2048) && em (g 0).nm && decide (wk g n 16 0 = some n)
theorem wk_z (g : Nat → CR) (n a : Nat) : wk g n 0 a = if n ≤ a then none else if oneP (g a) && !headP (g a) then some (a + 1) else none := rfl
theorem wk_s (g : Nat → CR) (n r a : Nat) : wk g n (r + 1) a = if n ≤ a then none else if oneP (g a) then
      if headP (g a) then kidsF (wk g n r) g n (decide ((g a).k = 7)) (g a).m.toNat [] (a + 1) else some (a + 1)
    else none := rfl
theorem kidsF_lt {w : Nat → Option Nat} {g : Nat → CR} {n : Nat} {obj : Bool} (hw : ∀ a e, w a = some e → a < e ∧ e ≤ n) : ∀ (m : Nat) (names : List ByteArray) (a e : Nat), a ≤ n → kidsF w g n obj m names a = some e → a + m ≤ e ∧ e ≤ n
  | 0, _, a, e, ha, h => by simp [kidsF] at h; omega
  | m + 1, names, a, e, ha, h => by
    rw [kidsF] at h
    split at h
    · cases h
    · split at h
      · cases hx : w a with
        | none => rw [hx] at h; cases h
        | some a' =>
          rw [hx] at h
          have h1 := hw a a' hx
          have h2 := kidsF_lt hw m _ a' e h1.2 h
          omega
      · cases h
theorem wk_lt {g : Nat → CR} {n : Nat} : ∀ (r a e : Nat), wk g n r a = some e → a < e ∧ e ≤ n
  | 0, a, e, h => by
    rw [wk] at h
    split at h
    · cases h
    · split at h
      · cases h; omega
      · cases h
  | r + 1, a, e, h => by
    rw [wk] at h
    split at h
    · cases h
    · split at h
      · split at h
        · have := kidsF_lt (wk_lt r) _ _ _ _ (by omega) h
          omega
        · cases h; omega
      · cases h
theorem kidsF_mono {w w' : Nat → Option Nat} {g : Nat → CR} {n : Nat} {obj : Bool} (hw : ∀ a e, w a = some e → w' a = some e) : ∀ (m : Nat) (names : List ByteArray) (a e : Nat), kidsF w g n obj m names a = some e → kidsF w' g n obj m names a = some e
  | 0, _, a, e, h => h
  | m + 1, names, a, e, h => by
    rw [kidsF] at h ⊢
    split at h
    · cases h
    · rename_i h1
      rw [if_neg h1]
      split at h
      · rename_i h2
        rw [if_pos h2]
        cases hx : w a with
        | none => rw [hx] at h; cases h
        | some a' =>
          rw [hx] at h
          rw [hw a a' hx]
          exact kidsF_mono hw m _ a' e h
      · cases h
theorem wk_succ {g : Nat → CR} {n : Nat} : ∀ (r a e : Nat), wk g n r a = some e → wk g n (r + 1) a = some e
  | 0, a, e, h => by
    rw [wk_z] at h
    rw [wk_s]
    split at h
    · cases h
    · rename_i h1
      rw [if_neg h1]
      split at h
      · rename_i h2
        simp only [Bool.and_eq_true, Bool.not_eq_true'] at h2
        rw [if_pos h2.1, if_neg (by rw [h2.2]; simp)]
        exact h
      · cases h
  | r + 1, a, e, h => by
    rw [wk_s] at h
    rw [wk_s]
    split at h
    · cases h
    · rename_i h1
      rw [if_neg h1]
      split at h
      · rename_i h2
        rw [if_pos h2]
        split at h
        · rename_i h3
          rw [if_pos h3]
          exact kidsF_mono (wk_succ r) _ _ _ _ h
        · rename_i h3
          rw [if_neg h3]
          exact h
      · cases h
theorem wk_up {g : Nat → CR} {n : Nat} {r r' a e : Nat} (hr : r ≤ r') (h : wk g n r a = some e) : wk g n r' a = some e := by
  obtain ⟨d, rfl⟩ : ∃ d, r' = r + d := ⟨r' - r, by omega⟩
  clear hr
  induction d with
  | zero => exact h
  | succ d ih => exact wk_succ _ _ _ ih
/-- So many values, one behind the other. -/
def Chain (g : Nat → CR) (n : Nat) : Nat → Nat → Nat → Prop
  | 0, a, e => a = e
  | o + 1, a, e => ∃ a', wk g n 16 a = some a' ∧ Chain g n o a' e
theorem Chain.le {g : Nat → CR} {n : Nat} : ∀ (o a e : Nat), Chain g n o a e → a + o ≤ e ∧ (e = a ∨ e ≤ n)
  | 0, a, e, h => by have : a = e := h; omega
  | o + 1, a, e, h => by
    obtain ⟨a', h1, h2⟩ := h
    have h3 := wk_lt _ _ _ h1
    have h4 := Chain.le o a' e h2
    omega
theorem Chain.add {g : Nat → CR} {n : Nat} : ∀ (o p a b e : Nat), Chain g n o a b → Chain g n p b e → Chain g n (o + p) a e
  | 0, p, a, b, e, h, k => by have : a = b := h; subst this; simpa using k
  | o + 1, p, a, b, e, h, k => by
    obtain ⟨a', h1, h2⟩ := h
    rw [show o + 1 + p = (o + p) + 1 by omega]
    exact ⟨a', h1, Chain.add o p a' b e h2 k⟩
theorem kidsF_chain {g : Nat → CR} {n r : Nat} {obj : Bool} (hr : r ≤ 16) : ∀ (m : Nat) (names : List ByteArray) (a e : Nat), kidsF (wk g n r) g n obj m names a = some e → Chain g n m a e
  | 0, _, a, e, h => by simp [kidsF] at h; exact h
  | m + 1, names, a, e, h => by
    rw [kidsF] at h
    split at h
    · cases h
    · split at h
      · cases hx : wk g n r a with
        | none => rw [hx] at h; cases h
        | some a' =>
          rw [hx] at h
          exact ⟨a', wk_up hr hx, kidsF_chain hr m _ a' e h⟩
      · cases h
theorem one_leaf {c : CR} (h1 : oneP c = true) (h2 : headP c = false) : c.m = 0 := by
  unfold oneP at h1
  simp only [headP, Bool.or_eq_false_iff, decide_eq_false_iff_not] at h2
  repeat' split at h1
  all_goals first
    | cases h1
    | (simp only [Bool.and_eq_true, decide_eq_true_eq] at h1; first | exact h1.1.2 | exact h1.2 | (exfalso; omega))
theorem one_head {c : CR} (h1 : oneP c = true) (h2 : headP c = true) : c.n = 0 ∧ em c.tx = true ∧ 0 ≤ c.m ∧ (c.k = 6 ∨ c.k = 7) := by
  simp only [headP, Bool.or_eq_true, decide_eq_true_eq] at h2
  unfold oneP at h1
  rw [if_neg (by omega), if_neg (by omega), if_neg (by omega), if_neg (by omega), if_neg (by omega), if_pos h2] at h1
  simp only [Bool.and_eq_true, decide_eq_true_eq] at h1
  exact ⟨h1.1.1, h1.1.2, h1.2, h2⟩
/-- What stands at the head of a value: the values in it, one behind the other. -/
theorem wk_open {g : Nat → CR} {n r a e : Nat} (hr : r ≤ 16) (h : wk g n r a = some e) : a < n ∧ oneP (g a) = true ∧ 0 ≤ (g a).m ∧ Chain g n (g a).m.toNat (a + 1) e := by
  cases r with
  | zero =>
    rw [wk] at h
    split at h
    · cases h
    · split at h
      · rename_i h2
        simp only [Bool.and_eq_true, Bool.not_eq_true'] at h2
        have := one_leaf h2.1 h2.2
        cases h
        refine ⟨by omega, h2.1, by omega, ?_⟩
        rw [this]; rfl
      · cases h
  | succ r =>
    rw [wk] at h
    split at h
    · cases h
    · split at h
      · rename_i h2
        split at h
        · rename_i h3
          exact ⟨by omega, h2, (one_head h2 h3).2.2.1, kidsF_chain (by omega) _ _ _ _ h⟩
        · rename_i h3
          have := one_leaf h2 (by simpa using h3)
          cases h
          refine ⟨by omega, h2, by omega, ?_⟩
          rw [this]; rfl
      · cases h
/-- One round of skip. -/
theorem Chain.step {g : Nat → CR} {n o a e : Nat} (h : Chain g n (o + 1) a e) : a < n ∧ a < e ∧ 0 ≤ (g a).m ∧ Chain g n (o + (g a).m.toNat) (a + 1) e := by
  obtain ⟨a', h1, h2⟩ := h
  obtain ⟨h3, _, h4, h5⟩ := wk_open (Nat.le_refl _) h1
  have := Chain.le _ _ _ h2
  have := wk_lt _ _ _ h1
  refine ⟨h3, by omega, h4, ?_⟩
  rw [Nat.add_comm]
  exact Chain.add _ _ _ _ _ h5 h2
theorem kidsF_at {g : Nat → CR} {n r : Nat} {obj : Bool} (hw : ∀ a e, wk g n r a = some e → ∀ b, a ≤ b → b < e → ∃ e', wk g n r b = some e' ∧ e' ≤ e) : ∀ (m : Nat) (names : List ByteArray) (a e : Nat), kidsF (wk g n r) g n obj m names a = some e → ∀ b, a ≤ b → b < e → ∃ e', wk g n r b = some e' ∧ e' ≤ e
  | 0, _, a, e, h, b, h1, h2 => by simp [kidsF] at h; omega
  | m + 1, names, a, e, h, b, h1, h2 => by
    rw [kidsF] at h
    split at h
    · cases h
    · split at h
      · cases hx : wk g n r a with
        | none => rw [hx] at h; cases h
        | some a' =>
          rw [hx] at h
          have h3 := (kidsF_lt (wk_lt r) _ _ _ _ (wk_lt _ _ _ hx).2 h).1
          by_cases hb : b < a'
          · obtain ⟨e', g1, g2⟩ := hw a a' hx b h1 hb
            exact ⟨e', g1, by omega⟩
          · exact kidsF_at hw m _ a' e h b (by omega) h2
      · cases h
theorem wk_at {g : Nat → CR} {n : Nat} : ∀ (r a e : Nat), wk g n r a = some e → ∀ b, a ≤ b → b < e → ∃ e', wk g n r b = some e' ∧ e' ≤ e
  | 0, a, e, h, b, h1, h2 => by
    have hh := h
    rw [wk] at h
    split at h
    · cases h
    · split at h
      · cases h
        obtain rfl : a = b := by omega
        exact ⟨_, hh, Nat.le_refl _⟩
      · cases h
  | r + 1, a, e, h, b, h1, h2 => by
    have hh := h
    rw [wk] at h
    split at h
    · cases h
    · split at h
      · split at h
        · by_cases hb : b = a
          · subst hb; exact ⟨_, hh, Nat.le_refl _⟩
          · obtain ⟨e', g1, g2⟩ := kidsF_at (wk_at r) _ _ _ _ h b (by omega) h2
            exact ⟨e', wk_succ _ _ _ g1, g2⟩
        · cases h
          obtain rfl : a = b := by omega
          exact ⟨_, hh, Nat.le_refl _⟩
      · cases h
end Go.Proofs.YtmkkckhfdafjnaaGreatDoor
/- Plain facts of layer 3: values in other cells. No program in sight. -/
namespace Go.Proofs.YtmkkckhfdafjnaaGreatDoor
open Go.RowKit
/-- From i to j two rows of cells read the same, but for the first one's name (b: that, too). -/
def Alk (b : Bool) (g1 : Nat → CR) (s1 : Nat) (g2 : Nat → CR) (s2 i j : Nat) : Prop :=
  ∀ t, i ≤ t → t < j → (g1 (t + s1)).k = (g2 (t + s2)).k ∧ (g1 (t + s1)).tx = (g2 (t + s2)).tx ∧ (g1 (t + s1)).n = (g2 (t + s2)).n ∧ (g1 (t + s1)).m = (g2 (t + s2)).m ∧ ((b = true ∨ i < t) → (g1 (t + s1)).nm = (g2 (t + s2)).nm)
theorem Alk.part {b : Bool} {g1 g2 : Nat → CR} {s1 s2 i j i' j' : Nat} (h : Alk b g1 s1 g2 s2 i j) (hi : b = true ∨ i < i') (hi' : i ≤ i') (hj : j' ≤ j) (c : Bool) : Alk c g1 s1 g2 s2 i' j' := fun t h1 h2 =>
  have q := h t (by omega) (by omega)
  ⟨q.1, q.2.1, q.2.2.1, q.2.2.2.1, fun _ => q.2.2.2.2 (by rcases hi with e | e; exact .inl e; exact .inr (by omega))⟩
theorem one_alk {c d : CR} (h1 : c.k = d.k) (h2 : c.tx = d.tx) (h3 : c.n = d.n) (h4 : c.m = d.m) : oneP c = oneP d := by
  unfold oneP; rw [h1, h2, h3, h4]
theorem kidsF_shift {g1 g2 : Nat → CR} {n1 n2 s1 s2 r : Nat} {obj : Bool} (ih : ∀ i j, wk g1 n1 r (i + s1) = some (j + s1) → Alk false g1 s1 g2 s2 i j → j + s2 ≤ n2 → wk g2 n2 r (i + s2) = some (j + s2)) :
    ∀ (m : Nat) (names : List ByteArray) (i j : Nat), i + s1 ≤ n1 → kidsF (wk g1 n1 r) g1 n1 obj m names (i + s1) = some (j + s1) → Alk true g1 s1 g2 s2 i j → j + s2 ≤ n2 → kidsF (wk g2 n2 r) g2 n2 obj m names (i + s2) = some (j + s2)
  | 0, _, i, j, _, h, _, _ => by
    simp only [kidsF, Option.some.injEq] at h ⊢
    omega
  | m + 1, names, i, j, hi, h, ha, hj => by
    rw [kidsF] at h
    split at h
    · cases h
    · rename_i h1
      split at h
      · rename_i h2
        cases hx : wk g1 n1 r (i + s1) with
        | none => rw [hx] at h; cases h
        | some a' =>
          rw [hx] at h
          have h3 := wk_lt _ _ _ hx
          obtain ⟨i', rfl⟩ : ∃ i', a' = i' + s1 := ⟨a' - s1, by omega⟩
          have h4 := kidsF_lt (wk_lt r) _ _ _ _ h3.2 h
          have hn := (ha i (Nat.le_refl _) (by omega)).2.2.2.2 (.inl rfl)
          have e := ih i i' hx (ha.part (.inl rfl) (Nat.le_refl _) (by omega) false) (by omega)
          rw [kidsF, if_neg (by have := wk_lt _ _ _ hx; omega), ← hn, if_pos h2, e]
          exact kidsF_shift ih m _ i' j h3.2 h (ha.part (.inl rfl) (by omega) (Nat.le_refl _) true) hj
      · cases h
theorem wk_shift {g1 g2 : Nat → CR} {n1 n2 s1 s2 : Nat} : ∀ (r i j : Nat), wk g1 n1 r (i + s1) = some (j + s1) → Alk false g1 s1 g2 s2 i j → j + s2 ≤ n2 → wk g2 n2 r (i + s2) = some (j + s2)
  | 0, i, j, h, ha, hj => by
    have hl := wk_lt _ _ _ h
    have q := ha i (Nat.le_refl _) (by omega)
    rw [wk_z] at h ⊢
    rw [if_neg (by omega)] at h ⊢
    rw [one_alk q.1 q.2.1 q.2.2.1 q.2.2.2.1, show headP (g1 (i + s1)) = headP (g2 (i + s2)) by unfold headP; rw [q.1]] at h
    split at h
    · rename_i h2
      rw [if_pos h2]
      simp only [Option.some.injEq] at h ⊢
      omega
    · cases h
  | r + 1, i, j, h, ha, hj => by
    have hl := wk_lt _ _ _ h
    have q := ha i (Nat.le_refl _) (by omega)
    rw [wk_s] at h ⊢
    rw [if_neg (by omega)] at h ⊢
    rw [one_alk q.1 q.2.1 q.2.2.1 q.2.2.2.1, show headP (g1 (i + s1)) = headP (g2 (i + s2)) by unfold headP; rw [q.1], q.1, q.2.2.2.1] at h
    split at h
    · rename_i h2
      rw [if_pos h2]
      split at h
      · rename_i h3
        rw [if_pos h3]
        rw [show i + s1 + 1 = (i + 1) + s1 by omega] at h
        rw [show i + s2 + 1 = (i + 1) + s2 by omega]
        exact kidsF_shift (wk_shift r) _ _ _ _ (by omega) h (ha.part (.inr (by omega)) (by omega) (Nat.le_refl _) true) hj
      · rename_i h3
        rw [if_neg h3]
        simp only [Option.some.injEq] at h ⊢
        omega
    · cases h
/-- The names of an object's members are apart, and none is empty; those of items are empty. -/
theorem kidsF_names {g : Nat → CR} {n r : Nat} {obj : Bool} : ∀ (m : Nat) (names : List ByteArray) (b : Nat → Nat), kidsF (wk g n r) g n obj m names (b 0) ≠ none → (∀ i, i < m → wk g n r (b i) = some (b (i + 1))) →
    ∀ i, i < m → namedP obj [] (g (b i)).nm = true ∧ (obj = true → (∀ s ∈ names, s ≠ (g (b i)).nm) ∧ ∀ j, j < i → (g (b j)).nm ≠ (g (b i)).nm)
  | 0, _, _, _, _, i, hi => by omega
  | m + 1, names, b, h, hb, i, hi => by
    rw [kidsF] at h
    split at h
    · exact absurd rfl h
    · split at h
      · rename_i h2
        rw [hb 0 (by omega)] at h
        simp only [] at h
        have h0 : namedP obj [] (g (b 0)).nm = true ∧ (obj = true → ∀ s ∈ names, s ≠ (g (b 0)).nm) := by
          unfold namedP at h2 ⊢
          cases obj with
          | false => exact ⟨h2, fun q => by cases q⟩
          | true =>
            simp only [if_true, Bool.and_eq_true, Bool.not_eq_true', List.any_eq_false, decide_eq_true_eq] at h2
            simp only [if_true, Bool.and_eq_true, Bool.not_eq_true', List.any_nil]
            exact ⟨⟨⟨by trivial, h2.1.2⟩, h2.2⟩, fun _ s hs => h2.1.1 s hs⟩
        cases i with
        | zero => exact ⟨h0.1, fun q => ⟨h0.2 q, fun j hj => by omega⟩⟩
        | succ i =>
          have k := kidsF_names m _ (fun t => b (t + 1)) h (fun t ht => hb (t + 1) (by omega)) i (by omega)
          refine ⟨k.1, fun q => ?_⟩
          obtain ⟨k1, k2⟩ := k.2 q
          subst q
          simp only [if_true, List.mem_cons, forall_eq_or_imp] at k1
          refine ⟨k1.2, fun j hj => ?_⟩
          cases j with
          | zero => exact k1.1
          | succ j => exact k2 j (by omega)
      · exact absurd rfl h
end Go.Proofs.YtmkkckhfdafjnaaGreatDoor
/- Plain facts of layer 3: where items and members begin; values put together. No program in sight. -/
namespace Go.Proofs.YtmkkckhfdafjnaaGreatDoor
open Go.RowKit
theorem ckC_parts {g : Nat → CR} {n : Nat} (h : ckC g n = true) : 0 < n ∧ n ≤ 2048 ∧ em (g 0).nm = true ∧ wk g n 16 0 = some n := by
  unfold ckC at h
  simp only [Bool.and_eq_true, decide_eq_true_eq] at h
  exact ⟨h.1.1.1, h.1.1.2, h.1.2, h.2⟩
theorem ckC_mk {g : Nat → CR} {n : Nat} (h1 : 0 < n) (h2 : n ≤ 2048) (h3 : em (g 0).nm = true) (h4 : wk g n 16 0 = some n) : ckC g n = true := by
  unfold ckC
  simp only [Bool.and_eq_true, decide_eq_true_eq]
  exact ⟨⟨⟨h1, h2⟩, h3⟩, h4⟩
/-- Behind the value that begins at a place. -/
def nx (g : Nat → CR) (n a : Nat) : Nat := (wk g n 16 a).getD a
/-- Where the i-th value from a place on begins. -/
def bd (g : Nat → CR) (n a : Nat) : Nat → Nat
  | 0 => a
  | i + 1 => nx g n (bd g n a i)
theorem bd_next (g : Nat → CR) (n a : Nat) : ∀ i, bd g n a (i + 1) = bd g n (nx g n a) i
  | 0 => rfl
  | i + 1 => by show nx g n (bd g n a (i + 1)) = nx g n (bd g n (nx g n a) i); rw [bd_next g n a i]
theorem nx_some {g : Nat → CR} {n a e : Nat} (h : wk g n 16 a = some e) : nx g n a = e := by unfold nx; rw [h]; rfl
theorem bd_chain {g : Nat → CR} {n : Nat} : ∀ (m a e : Nat), Chain g n m a e → (∀ i, i < m → wk g n 16 (bd g n a i) = some (bd g n a (i + 1))) ∧ bd g n a m = e
  | 0, a, e, h => ⟨fun i hi => by omega, h⟩
  | m + 1, a, e, h => by
    obtain ⟨a', h1, h2⟩ := h
    have hn := nx_some h1
    obtain ⟨k1, k2⟩ := bd_chain m a' e h2
    refine ⟨fun i hi => ?_, by rw [bd_next, hn]; exact k2⟩
    cases i with
    | zero => show wk g n 16 a = some (nx g n a); rw [hn]; exact h1
    | succ i =>
      rw [bd_next, bd_next, hn]
      exact k1 i (by omega)
theorem chain_bd {g : Nat → CR} {n : Nat} (a : Nat) (b : Nat → Nat) : ∀ (m : Nat), (∀ i, i < m → wk g n 16 (b i) = some (b (i + 1))) → b 0 = a → ∀ i, i ≤ m → bd g n a i = b i
  | m, h, h0, 0, _ => h0.symm
  | m, h, h0, i + 1, hi => by
    show nx g n (bd g n a i) = _
    rw [chain_bd a b m h h0 i (by omega)]
    exact nx_some (h i (by omega))
/-- The members' names of an object are apart. -/
theorem names_apart {g : Nat → CR} {n r a e : Nat} (hr : r ≤ 16) (h : wk g n r a = some e) (hk : (g a).k = 7) : ∀ i, i < (g a).m.toNat → namedP true [] (g (bd g n (a + 1) i)).nm = true ∧ ∀ j, j < i → (g (bd g n (a + 1) j)).nm ≠ (g (bd g n (a + 1) i)).nm := by
  have hc := (wk_open hr h).2.2.2
  have hb := (bd_chain _ _ _ hc).1
  cases r with
  | zero =>
    rw [wk_z] at h
    have : headP (g a) = true := by simp [headP, hk]
    rw [this] at h
    simp at h
  | succ r =>
    rw [wk_s] at h
    split at h
    · cases h
    · split at h
      · rw [if_pos (by simp [headP, hk]), hk] at h
        intro i hi
        have hbr : ∀ i, i < (g a).m.toNat → wk g n r (bd g n (a + 1) i) = some (bd g n (a + 1) (i + 1)) := by
          have K : ∀ (m : Nat) (names : List ByteArray) (b : Nat → Nat), kidsF (wk g n r) g n true m names (b 0) = some e → (∀ i, i < m → wk g n 16 (b i) = some (b (i + 1))) → ∀ i, i < m → wk g n r (b i) = some (b (i + 1)) := by
            intro m
            induction m with
            | zero => intro _ _ _ _ i hi; omega
            | succ m ih =>
              intro names b hk hb i hi
              rw [kidsF] at hk
              split at hk
              · cases hk
              · split at hk
                · cases hx : wk g n r (b 0) with
                  | none => rw [hx] at hk; cases hk
                  | some a' =>
                    rw [hx] at hk
                    have e1 := wk_up (r' := 16) (by omega) hx
                    rw [hb 0 (by omega)] at e1
                    simp only [Option.some.injEq] at e1
                    cases i with
                    | zero => rw [hx, e1]
                    | succ i =>
                      rw [← e1] at hk
                      exact ih _ (fun t => b (t + 1)) hk (fun t ht => hb (t + 1) (by omega)) i (by omega)
                · cases hk
          exact K _ _ (bd g n (a + 1)) h hb
        have k := kidsF_names _ [] (bd g n (a + 1)) (by rw [show bd g n (a + 1) 0 = a + 1 from rfl, show decide ((7 : Nat) = 7) = true from rfl] at *; rw [h]; simp) hbr i hi
        exact ⟨k.1, (k.2 rfl).2⟩
      · cases h
end Go.Proofs.YtmkkckhfdafjnaaGreatDoor
/- Plain facts of layer 3: lists of cells; values put together under a head; a value cut out. No program in sight. -/
namespace Go.Proofs.YtmkkckhfdafjnaaGreatDoor
open Go.RowKit
def gl (L : List CR) (i : Nat) : CR := L.getD i default
def ckL (L : List CR) : Bool := ckC (gl L) L.length
/-- The cells, the first one's name aside. -/
def ren (s : ByteArray) : List CR → List CR
  | [] => []
  | c :: r => { c with nm := s } :: r
theorem ren_len (s : ByteArray) (l : List CR) : (ren s l).length = l.length := by cases l <;> rfl
theorem ren_at (s : ByteArray) (l : List CR) (t : Nat) (h : t < l.length) : (gl (ren s l) t).k = (gl l t).k ∧ (gl (ren s l) t).tx = (gl l t).tx ∧ (gl (ren s l) t).n = (gl l t).n ∧ (gl (ren s l) t).m = (gl l t).m ∧ (0 < t → (gl (ren s l) t).nm = (gl l t).nm) := by
  cases l with
  | nil => simp at h
  | cons c r =>
    cases t with
    | zero => exact ⟨rfl, rfl, rfl, rfl, fun h => by omega⟩
    | succ t => exact ⟨rfl, rfl, rfl, rfl, fun _ => rfl⟩
theorem ren_nm (s : ByteArray) (l : List CR) (h : 0 < l.length) : (gl (ren s l) 0).nm = s := by
  cases l with
  | nil => simp at h
  | cons c r => rfl
/-- Where the i-th of some lists begins, put one behind the other from a place on. -/
def st (a : Nat) (ls : List (List CR)) (i : Nat) : Nat := a + ((ls.take i).map List.length).sum
theorem st_zero (a : Nat) (ls : List (List CR)) : st a ls 0 = a := by simp [st]
theorem st_succ (a : Nat) (ls : List (List CR)) (i : Nat) (h : i < ls.length) : st a ls (i + 1) = st a ls i + ls[i].length := by
  unfold st
  rw [List.take_succ_eq_append_getElem h, List.map_append, List.sum_append]
  show a + (_ + (ls[i].length + 0)) = _
  omega
theorem st_all (a : Nat) (ls : List (List CR)) : st a ls ls.length = a + ls.flatten.length := by
  unfold st
  rw [List.take_length, List.length_flatten]
theorem flat_at : ∀ (ls : List (List CR)) (i t : Nat) (h : i < ls.length), t < ls[i].length → gl ls.flatten (st 0 ls i + t) = gl ls[i] t
  | [], i, t, h, _ => by simp at h
  | l :: ls, 0, t, h, ht => by
    have ht' : t < l.length := ht
    unfold gl st
    simp only [List.take_zero, List.map_nil, List.sum_nil, Nat.zero_add, List.flatten_cons, List.getElem_cons_zero]
    rw [List.getD_eq_getElem?_getD, List.getD_eq_getElem?_getD, List.getElem?_append_left ht']
  | l :: ls, i + 1, t, h, ht => by
    have h' : i < ls.length := by simpa using h
    have ht' : t < ls[i].length := by simpa using ht
    have ih := flat_at ls i t h' ht'
    have e : st 0 (l :: ls) (i + 1) = l.length + st 0 ls i := by simp [st]
    rw [e]
    unfold gl at ih ⊢
    simp only [List.flatten_cons, List.getElem_cons_succ]
    rw [← ih, List.getD_eq_getElem?_getD, List.getD_eq_getElem?_getD, List.getElem?_append_right (by omega)]
    congr 2
    omega
/-- Values (renamed) under a head. -/
def under (h : CR) (ls : List (List CR)) : List CR := h :: ls.flatten
theorem under_at (h : CR) (ls : List (List CR)) (i t : Nat) (hi : i < ls.length) (ht : t < ls[i].length) : gl (under h ls) (st 1 ls i + t) = gl ls[i] t := by
  rw [← flat_at ls i t hi ht]
  unfold under gl
  rw [show st 1 ls i + t = (st 0 ls i + t) + 1 by unfold st; omega]
  rfl
theorem under_len (h : CR) (ls : List (List CR)) : (under h ls).length = st 1 ls ls.length := by
  rw [st_all]; simp [under]; omega
theorem st_le (a : Nat) (ls : List (List CR)) : ∀ (d i : Nat), i + d ≤ ls.length → st a ls i ≤ st a ls (i + d)
  | 0, _, _ => Nat.le_refl _
  | d + 1, i, h => by
    have := st_le a ls d i (by omega)
    have := st_succ a ls (i + d) (by omega)
    rw [show i + (d + 1) = i + d + 1 by omega]
    omega
/-- Each of the values that were put together begins one where it stands. -/
theorem under_wk (h : CR) (vs ls : List (List CR)) (hl : ls.length = vs.length) (hr : ∀ i (h1 : i < ls.length) (h2 : i < vs.length), ∃ s, ls[i] = ren s vs[i]) (hv : ∀ i (h2 : i < vs.length), ckL vs[i] = true) :
    ∀ i, i < ls.length → wk (gl (under h ls)) (under h ls).length 16 (st 1 ls i) = some (st 1 ls (i + 1)) := by
  intro i hi
  have h2 : i < vs.length := by omega
  obtain ⟨s, es⟩ := hr i hi h2
  obtain ⟨k1, _, _, k4⟩ := ckC_parts (hv i h2)
  have el : ls[i].length = vs[i].length := by rw [es, ren_len]
  have e1 := st_succ 1 ls i hi
  have e2 := st_le 1 ls (ls.length - (i + 1)) (i + 1) (by omega)
  rw [show i + 1 + (ls.length - (i + 1)) = ls.length by omega] at e2
  have k := wk_shift (g1 := gl vs[i]) (n1 := vs[i].length) (s1 := 0) (g2 := gl (under h ls)) (n2 := (under h ls).length) (s2 := st 1 ls i) 16 0 vs[i].length (by simpa using k4) ?_ (by rw [under_len]; omega)
  · rw [Nat.zero_add] at k
    rw [k, e1, el, Nat.add_comm]
  · intro t _ ht
    have q := ren_at s vs[i] t ht
    rw [← es] at q
    have u := under_at h ls i t hi (by omega)
    rw [Nat.add_comm t (st 1 ls i), u, Nat.add_zero]
    exact ⟨q.1.symm, q.2.1.symm, q.2.2.1.symm, q.2.2.2.1.symm, fun hh => (q.2.2.2.2 (by rcases hh with e | e; cases e; exact e)).symm⟩
theorem under_bd (h : CR) (vs ls : List (List CR)) (hl : ls.length = vs.length) (hr : ∀ i (h1 : i < ls.length) (h2 : i < vs.length), ∃ s, ls[i] = ren s vs[i]) (hv : ∀ i (h2 : i < vs.length), ckL vs[i] = true) :
    ∀ i, i ≤ ls.length → bd (gl (under h ls)) (under h ls).length 1 i = st 1 ls i :=
  chain_bd 1 (st 1 ls) ls.length (under_wk h vs ls hl hr hv) (st_zero 1 ls)
/-- Cells from a place to another one. -/
def cut (g : Nat → CR) (a e : Nat) : List CR := (List.range (e - a)).map fun i => g (a + i)
theorem cut_len (g : Nat → CR) (a e : Nat) : (cut g a e).length = e - a := by simp [cut]
theorem cut_at (g : Nat → CR) (a e t : Nat) (h : t < e - a) : gl (cut g a e) t = g (a + t) := by
  unfold gl cut
  rw [List.getD_eq_getElem?_getD, List.getElem?_map, List.getElem?_range h]
  rfl
theorem em_eq {s : ByteArray} (h : em s = true) : s = ⟨#[]⟩ := by
  unfold em at h
  simp only [decide_eq_true_eq] at h
  exact ByteArray.ext (Array.eq_empty_of_size_eq_zero h)
/-- What is cut out of a value, without its name, is a value. -/
theorem sub_ck {g : Nat → CR} {n a e : Nat} (h : wk g n 16 a = some e) (hn : n ≤ 2048) : ckL (ren ⟨#[]⟩ (cut g a e)) = true := by
  have hl := wk_lt _ _ _ h
  have e1 : (ren ⟨#[]⟩ (cut g a e)).length = e - a := by rw [ren_len, cut_len]
  refine ckC_mk (by omega) (by omega) (by rw [ren_nm _ _ (by rw [cut_len]; omega)]; rfl) ?_
  rw [e1]
  have k := wk_shift (g1 := g) (n1 := n) (s1 := a) (g2 := gl (ren ⟨#[]⟩ (cut g a e))) (n2 := e - a) (s2 := 0) 16 0 (e - a) (by rw [Nat.zero_add, Nat.sub_add_cancel (by omega)]; exact h) ?_ (by omega)
  · simpa using k
  · intro t _ ht
    have q := ren_at ⟨#[]⟩ (cut g a e) t (by rw [cut_len]; exact ht)
    rw [cut_at g a e t ht, Nat.add_comm] at q
    rw [Nat.add_zero]
    exact ⟨q.1.symm, q.2.1.symm, q.2.2.1.symm, q.2.2.2.1.symm, fun hh => (q.2.2.2.2 (by rcases hh with w | w; cases w; exact w)).symm⟩
theorem ren_self {l : List CR} {s : ByteArray} (h : (gl l 0).nm = s) : ren s l = l := by
  cases l with
  | nil => rfl
  | cons c r =>
    have : c.nm = s := h
    unfold ren; rw [← this]
theorem ren_ren (s t : ByteArray) (l : List CR) : ren s (ren t l) = ren s l := by cases l <;> rfl
theorem gl_ext {L M : List CR} (h : L.length = M.length) (k : ∀ i, i < L.length → gl L i = gl M i) : L = M := by
  apply List.ext_getElem h
  intro i h1 h2
  have := k i h1
  unfold gl at this
  rw [List.getD_eq_getElem?_getD, List.getD_eq_getElem?_getD, List.getElem?_eq_getElem h1, List.getElem?_eq_getElem h2] at this
  exact this
/-- Sub of a value that was put in, where it stands, is that value. -/
theorem under_sub (h : CR) (vs ls : List (List CR)) (hl : ls.length = vs.length) (hr : ∀ i (h1 : i < ls.length) (h2 : i < vs.length), ∃ s, ls[i] = ren s vs[i]) (hv : ∀ i (h2 : i < vs.length), ckL vs[i] = true) (i : Nat) (hi : i < ls.length) (h2 : i < vs.length) :
    ren ⟨#[]⟩ (cut (gl (under h ls)) (st 1 ls i) (st 1 ls (i + 1))) = vs[i] := by
  obtain ⟨s, es⟩ := hr i hi h2
  obtain ⟨k1, _, k3, _⟩ := ckC_parts (hv i h2)
  have el : ls[i].length = vs[i].length := by rw [es, ren_len]
  have e1 := st_succ 1 ls i hi
  have ec : cut (gl (under h ls)) (st 1 ls i) (st 1 ls (i + 1)) = ls[i] := by
    refine gl_ext (by rw [cut_len]; omega) fun t ht => ?_
    rw [cut_len] at ht
    rw [cut_at _ _ _ _ ht, under_at h ls i t hi (by omega)]
  rw [ec, es, ren_ren]
  exact ren_self (em_eq k3)
/-- What is put together of a value's subs (renamed) is that value. -/
theorem parts_under {g : Nat → CR} {n a e : Nat} (h : wk g n 16 a = some e) (ls : List (List CR)) (hl : ls.length = (g a).m.toNat) (hs : ∀ i (h1 : i < ls.length), ls[i] = cut g (bd g n (a + 1) i) (bd g n (a + 1) (i + 1))) :
    under (g a) ls = cut g a e := by
  have hc := (wk_open (Nat.le_refl _) h).2.2.2
  obtain ⟨b1, b2⟩ := bd_chain _ _ _ hc
  have hl2 := wk_lt _ _ _ h
  have hst : ∀ i, i ≤ ls.length → st (a + 1) ls i = bd g n (a + 1) i := by
    intro i
    induction i with
    | zero => intro _; rw [st_zero]; rfl
    | succ i ih =>
      intro hi
      have q := ih (by omega)
      have w := wk_lt _ _ _ (b1 i (by omega))
      rw [st_succ _ _ _ (by omega), q, hs i (by omega), cut_len]
      omega
  have e0 : ls.flatten.length = e - (a + 1) := by
    have := hst ls.length (Nat.le_refl _)
    rw [st_all, hl, b2] at this
    omega
  have e3 : (under (g a) ls).length = ls.flatten.length + 1 := rfl
  refine gl_ext (by rw [cut_len, e3]; omega) fun t ht => ?_
  have ht' : t < e - a := by rw [e3] at ht; omega
  rw [cut_at _ _ _ _ ht']
  cases t with
  | zero => rfl
  | succ t =>
    -- which of them
    have key : ∀ (i : Nat), i ≤ ls.length → ∀ t, a + 1 + t < bd g n (a + 1) i → gl ls.flatten t = g (a + 1 + t) := by
      intro i
      induction i with
      | zero => intro _ t hq; exact absurd hq (by show ¬ (a + 1 + t < a + 1); omega)
      | succ i ih =>
        intro hi t hq
        by_cases hlt : a + 1 + t < bd g n (a + 1) i
        · exact ih (by omega) t hlt
        · have q := hst i (by omega)
          have q0 : st 0 ls i + (a + 1) = bd g n (a + 1) i := by rw [← q]; unfold st; omega
          have lt : t - st 0 ls i < ls[i].length := by rw [hs i (by omega), cut_len]; omega
          have f := flat_at ls i (t - st 0 ls i) (by omega) lt
          rw [show st 0 ls i + (t - st 0 ls i) = t by omega] at f
          rw [f, hs i (by omega), cut_at _ _ _ _ (by omega)]
          congr 1
          omega
    have := key ls.length (Nat.le_refl _) t (by rw [hl, b2]; omega)
    show gl ls.flatten t = _
    rw [this]
    congr 1
    omega
end Go.Proofs.YtmkkckhfdafjnaaGreatDoor
/- Layer 3: what a cell's checks tell. -/
namespace Go.Proofs.YtmkkckhfdafjnaaGreatDoor
open Go.RowKit
def cv (c : CR) : Value := .agg #[.int .u8 c.k, .string c.nm, .string c.tx, .int .i64 c.n, .int .i64 c.m]
def ccells (c : CR) : Array Value := #[.int .u8 c.k, .string c.nm, .string c.tx, .int .i64 c.n, .int .i64 c.m]
theorem size_nil {s : ByteArray} (h : s.toList = []) : s.size = 0 := by
  rw [ByteArray.toList_eq] at h
  have : s.data = #[] := by simpa using h
  show s.data.size = 0
  rw [this]; rfl
theorem em_yes {s : ByteArray} (h : em s = true) : s = ⟨#[]⟩ := em_eq h
theorem em_no {s : ByteArray} (h : em s = false) : s.toList.isEmpty = false := by
  unfold em at h
  simp only [decide_eq_false_iff_not] at h
  cases hs : s.toList with
  | nil =>
    exfalso
    apply h
    exact size_nil hs
  | cons _ _ => rfl
set_option maxRecDepth 20000 in
theorem bare_any (c : CR) (w : World) : Calls Tryz.prog 90 #[cv c] w fun e w' => e = .returned (.bool (em c.tx && decide (c.m = 0))) ∧ Below w.heap.size w w' := by
  obtain ⟨k, nm, tx, n, m⟩ := c
  show Calls Tryz.prog 90 #[cv ⟨k, nm, tx, n, m⟩] w fun e w' => e = .returned (.bool (em tx && decide (m = 0))) ∧ Below w.heap.size w w'
  unfold cv
  obtain ⟨r, hr⟩ : ∃ r, r = (em tx && decide (m = 0)) := ⟨_, rfl⟩
  rw [← hr]
  by_cases he : em tx = true
  · by_cases hm : m = 0
    · have HB := Lib.hid (show r = true by rw [hr, he, hm]; rfl)
      obtain rfl := em_yes he
      subst hm
      clear he
      clear hr
      go_enter Tryz.func90, Tryz.ntmps90
      go_wp2_with fail
      go_ret
      exact ⟨ret_bool HB.out.symm, (Below.refl _ _).alloc (Nat.le_refl _) _⟩
    · have HB := Lib.hid (show r = false by rw [hr, decide_eq_false hm, Bool.and_false])
      obtain rfl := em_yes he
      have g : (m == 0) = false := by rw [beq_eq_false_iff_ne]; exact hm
      clear he hm
      clear hr
      go_enter Tryz.func90, Tryz.ntmps90
      go_wp2_with fail
      go_ret
      exact ⟨ret_bool HB.out.symm, (Below.refl _ _).alloc (Nat.le_refl _) _⟩
  · replace he : em tx = false := by simpa using he
    have HB := Lib.hid (show r = false by rw [hr, he, Bool.false_and])
    have g := em_no he
    clear he
    clear hr
    go_enter Tryz.func90, Tryz.ntmps90
    go_wp2_with fail
    go_ret
    exact ⟨ret_bool HB.out.symm, (Below.refl _ _).alloc (Nat.le_refl _) _⟩
set_option maxRecDepth 20000 in
theorem only_any (c : CR) (w : World) : Calls Tryz.prog 93 #[cv c] w fun e w' => e = .returned (.bool (decide (c.n = 0) && decide (c.m = 0))) ∧ Below w.heap.size w w' := by
  obtain ⟨k, nm, tx, n, m⟩ := c
  show Calls Tryz.prog 93 #[cv ⟨k, nm, tx, n, m⟩] w fun e w' => e = .returned (.bool (decide (n = 0) && decide (m = 0))) ∧ Below w.heap.size w w'
  unfold cv
  obtain ⟨r, hr⟩ : ∃ r, r = (decide (n = 0) && decide (m = 0)) := ⟨_, rfl⟩
  rw [← hr]
  by_cases he : n = 0
  · by_cases hm : m = 0
    · have HB := Lib.hid (show r = true by rw [hr, he, hm]; rfl)
      subst he
      subst hm
      clear hr
      go_enter Tryz.func93, Tryz.ntmps93
      go_wp2_with fail
      go_ret
      exact ⟨ret_bool HB.out.symm, (Below.refl _ _).alloc (Nat.le_refl _) _⟩
    · have HB := Lib.hid (show r = false by rw [hr, decide_eq_false hm, Bool.and_false])
      subst he
      have g : (m == 0) = false := by rw [beq_eq_false_iff_ne]; exact hm
      clear hm
      clear hr
      go_enter Tryz.func93, Tryz.ntmps93
      go_wp2_with fail
      go_ret
      exact ⟨ret_bool HB.out.symm, (Below.refl _ _).alloc (Nat.le_refl _) _⟩
  · have HB := Lib.hid (show r = false by rw [hr, decide_eq_false he, Bool.false_and])
    have g : (n == 0) = false := by rw [beq_eq_false_iff_ne]; exact he
    clear he
    clear hr
    go_enter Tryz.func93, Tryz.ntmps93
    go_wp2_with fail
    go_ret
    exact ⟨ret_bool HB.out.symm, (Below.refl _ _).alloc (Nat.le_refl _) _⟩
set_option maxRecDepth 20000 in
theorem head_any (c : CR) (w : World) : Calls Tryz.prog 97 #[cv c] w fun e w' => e = .returned (.bool (decide (c.n = 0) && em c.tx && decide (0 ≤ c.m))) ∧ Below w.heap.size w w' := by
  obtain ⟨k, nm, tx, n, m⟩ := c
  show Calls Tryz.prog 97 #[cv ⟨k, nm, tx, n, m⟩] w fun e w' => e = .returned (.bool (decide (n = 0) && em tx && decide (0 ≤ m))) ∧ Below w.heap.size w w'
  unfold cv
  obtain ⟨r, hr⟩ : ∃ r, r = (decide (n = 0) && em tx && decide (0 ≤ m)) := ⟨_, rfl⟩
  rw [← hr]
  by_cases he : n = 0
  · cases ht : em tx with
    | true =>
      obtain rfl := em_yes ht
      by_cases hm : 0 ≤ m
      · have HB := Lib.hid (show r = true by rw [hr, he, ht, decide_eq_true hm]; rfl)
        subst he
        clear ht
        clear hr
        go_enter Tryz.func97, Tryz.ntmps97
        go_wp2_with fail
        go_ret
        exact ⟨ret_bool HB.out.symm, (Below.refl _ _).alloc (Nat.le_refl _) _⟩
      · have HB := Lib.hid (show r = false by rw [hr, decide_eq_false hm, Bool.and_false])
        subst he
        clear ht
        have g : ¬ (0 : Int) ≤ m := hm
        clear hm
        clear hr
        go_enter Tryz.func97, Tryz.ntmps97
        go_wp2_with fail
        go_ret
        exact ⟨ret_bool HB.out.symm, (Below.refl _ _).alloc (Nat.le_refl _) _⟩
    | false =>
      have HB := Lib.hid (show r = false by rw [hr, ht, Bool.and_false, Bool.false_and])
      have g := em_no ht
      subst he
      clear ht
      clear hr
      go_enter Tryz.func97, Tryz.ntmps97
      go_wp2_with fail
      go_ret
      exact ⟨ret_bool HB.out.symm, (Below.refl _ _).alloc (Nat.le_refl _) _⟩
  · have HB := Lib.hid (show r = false by rw [hr, decide_eq_false he, Bool.false_and, Bool.false_and])
    have g : (n == 0) = false := by rw [beq_eq_false_iff_ne]; exact he
    clear he
    clear hr
    go_enter Tryz.func97, Tryz.ntmps97
    go_wp2_with fail
    go_ret
    exact ⟨ret_bool HB.out.symm, (Below.refl _ _).alloc (Nat.le_refl _) _⟩
set_option maxRecDepth 20000 in
theorem more_any (c : CR) (w : World) : Calls Tryz.prog 82 #[cv c] w fun e w' => e = .returned (.bool (decide (c.k = 6) || decide (c.k = 7))) ∧ Below w.heap.size w w' := by
  obtain ⟨k, nm, tx, n, m⟩ := c
  show Calls Tryz.prog 82 #[cv ⟨k, nm, tx, n, m⟩] w fun e w' => e = .returned (.bool (decide (k = 6) || decide (k = 7))) ∧ Below w.heap.size w w'
  unfold cv
  obtain ⟨r, hr⟩ : ∃ r, r = (decide (k = 6) || decide (k = 7)) := ⟨_, rfl⟩
  rw [← hr]
  by_cases he : k = 6
  · have HB := Lib.hid (show r = true by rw [hr, he]; rfl)
    subst he
    clear hr
    go_enter Tryz.func82, Tryz.ntmps82
    go_wp2_with fail
    go_ret
    exact ⟨ret_bool HB.out.symm, (Below.refl _ _).alloc (Nat.le_refl _) _⟩
  · have g1 : ((k : Int) == 6) = false := by rw [beq_eq_false_iff_ne]; omega
    by_cases hm : k = 7
    · have HB := Lib.hid (show r = true by rw [hr, hm]; rfl)
      subst hm
      clear he g1
      clear hr
      go_enter Tryz.func82, Tryz.ntmps82
      go_wp2_with fail
      go_ret
      exact ⟨ret_bool HB.out.symm, (Below.refl _ _).alloc (Nat.le_refl _) _⟩
    · have HB := Lib.hid (show r = false by rw [hr, decide_eq_false he, decide_eq_false hm]; rfl)
      have g2 : ((k : Int) == 7) = false := by rw [beq_eq_false_iff_ne]; omega
      clear he hm
      clear hr
      go_enter Tryz.func82, Tryz.ntmps82
      go_wp2_with fail
      go_ret
      exact ⟨ret_bool HB.out.symm, (Below.refl _ _).alloc (Nat.le_refl _) _⟩
end Go.Proofs.YtmkkckhfdafjnaaGreatDoor
