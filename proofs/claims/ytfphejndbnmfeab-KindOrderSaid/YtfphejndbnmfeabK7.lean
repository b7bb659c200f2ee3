import Derived.Test.YtfphejndbnmfeabK4
import Derived.OwnWalk
import Derived.WalkSpells
import Derived.Laws.IdiomStrings
import Derived.Laws.BytesString
import Derived.Lib.BufferRead
import Derived.Deep.RegionHeld3
namespace Go.Proofs.Ytfphejndbnmfeab
open Go.RowKit

theorem info5 : ∃ i, Try.prog.info? 5 = some i ∧ i.zero = some (.int .u8 0) ∧ i.size = 1 ∧ i.bytes = 1 := by
  have h := Try.typeInfo5 default
  unfold typeInfo at h
  cases hq : Try.prog.info? 5 with
  | none => simp [hq] at h
  | some i =>
    simp [hq] at h
    exact ⟨i, rfl, by rw [h]; rfl, by rw [h]; rfl, by rw [h]; rfl⟩
/-- A row of bytes of the call's own, read. -/
theorem own_view {w : World} {B : Nat} {v : Value} {L : List Int} (h : w.ownsRow B 5 1 v L.length (L.map (Value.int .u8))) :
    ∃ (a : Option Addr) (c : Nat), v = .slice a L.length c ∧ View w a L.length L ∧ L.length ≤ c := by
  rcases h.2 with ⟨rfl, hn⟩ | ⟨g, cap, cur, rfl, hg, hgg, h1, h2, h3, h4⟩
  · refine ⟨none, 0, by rw [hn], ⟨rfl, fun k hk => by omega⟩, by omega⟩
  · refine ⟨some ⟨g, 0, none⟩, cap, rfl, ⟨rfl, fun k hk => ⟨g, 0, rfl, (Array.getElem?_eq_some_iff.1 hgg).1, ?_⟩⟩, h1⟩
    rw [Nat.zero_add]
    simp only [World.cell?, hgg]
    have e : cur.toList[k]? = (cur.toList.take (L.length * 1))[k]? := by rw [List.getElem?_take_of_lt (by omega)]
    have e2 : cur[k]? = cur.toList[k]? := by simp
    have e3 : cur[k]? = some (.int .u8 (L.getD k 0)) := by
      rw [e2, e, h4]
      simp [hk, List.getD]
    simpa using e3
/-- What is appended of a view. -/
theorem view_news {w : World} {b off len : Nat} {L : List Int} (h : View w (some ⟨b, off, none⟩) len L) : ∀ j u, (L.map (Value.int .u8))[j]? = some u → w.cell? ((⟨b, off, none⟩ : Addr).add j) = some u := by
  intro j u hj
  have hjl : j < L.length := by
    have := (List.getElem?_eq_some_iff.1 hj).1
    simpa using this
  obtain ⟨b', off', e, _, hc⟩ := h.2 j (by rw [← h.1]; exact hjl)
  simp only [Option.some.injEq, Addr.mk.injEq, and_true] at e
  obtain ⟨rfl, rfl⟩ := e
  rw [Addr.add_lit, hc, ← hj]
  simp [hjl, List.getD]
theorem news_one {L : List Int} : ∀ u ∈ L.map (Value.int .u8), u.oneCell' = true := by
  intro u hu
  obtain ⟨x, _, rfl⟩ := List.mem_map.1 hu
  rfl
def bytesL (L : List Int) : List UInt8 := L.map (fun x => UInt8.ofNat x.toNat)
/-- A view of bytes, made a string. -/
theorem view_string {w : World} {a : Option Addr} {len c : Nat} {L : List Int} (h : View w a len L) (hr : ∀ x ∈ L, 0 ≤ x ∧ x < 256) :
    (convert 23 9 (.slice a len c)).run Try.prog w = .ok (.string ⟨(bytesL L).toArray⟩) w := by
  have hl := h.1
  cases a with
  | none =>
    have hz : len = 0 := by
      rcases Nat.eq_zero_or_pos len with e | e
      · exact e
      · obtain ⟨b, off, e', _⟩ := h.2 0 e; cases e'
    subst hz
    have : L = [] := List.length_eq_zero_iff.1 hl
    subst this
    exact Lib.run_convert_nil_bytes w 23 9 5 c Try.underlying23 Try.underlying5 Try.underlying9
  | some x =>
    have k := run_convert_bytes_back (P := Try.prog) w 23 9 5 x c (bytesL L) Try.underlying23 Try.underlying5 Try.underlying9 (fun j hj => by
      have hj' : j < L.length := by simpa [bytesL] using hj
      obtain ⟨b, off, e, _, hc⟩ := h.2 j (by omega)
      simp only [Option.some.injEq] at e
      subst e
      have hx := hr L[j] (List.getElem_mem hj')
      rw [Addr.add_lit, hc]
      simp only [bytesL, List.getElem_map, List.getD, List.getElem?_eq_getElem hj', Option.getD_some, Option.some.injEq, Value.int.injEq, true_and]
      rw [UInt8.toNat_ofNat']; omega)
    rw [show (bytesL L).length = len by simp [bytesL, hl]] at k
    exact k
def IsSl (w : World) (L : List Int) (v : Value) : Prop := ∃ (a : Option Addr) (l c : Nat), v = .slice a l c ∧ View w a l L ∧ l ≤ c
set_option maxRecDepth 10000 in
theorem clone_any (a : Option Addr) (len cap : Nat) (L : List Int) (w : World) (hv : View w a len L) (hm : len ≤ 1000) :
    Calls Try.prog 43 #[.slice a len cap] w fun e w' => ∃ v, e = .returned v ∧ IsSl w' L v ∧ Below w.heap.size w w' := by
  have q23 : ∀ (w : World) (a : Option Addr) (n c n' c' : Nat), (binOp .eql 23 (.slice a n c) (.slice none n' c')).run Try.prog w = .ok (.bool a.isNone) w := fun w a n c n' c' => Lib.run_eql_slice_nil w _ _ a n c n' c' Try.underlying23
  cases a with
  | none =>
    have hz : len = 0 := by
      rcases Nat.eq_zero_or_pos len with e | e
      · exact e
      · obtain ⟨b, off, e', _⟩ := hv.2 0 e; cases e'
    subst hz
    have HV := Lib.hid hv
    clear hv hm
    go_enter Try.func43, Try.ntmps43
    go_wp2_with fail
    go_ret
    exact ⟨_, rfl, ⟨none, 0, 0, rfl, HV.out, Nat.le_refl _⟩, Below.refl _ _⟩
  | some x =>
    obtain ⟨i0, hi, hz0, hz1, hz2⟩ := info5
    have HN : Hid (∀ j u, (L.map (Value.int .u8))[j]? = some u → w.cell? (x.add j) = some u) := Lib.hid (by
      intro j u hj
      have hjl : j < L.length := by
        have := (List.getElem?_eq_some_iff.1 hj).1
        simpa using this
      obtain ⟨b', off', e, _, hc⟩ := hv.2 j (by rw [← hv.1]; exact hjl)
      simp only [Option.some.injEq] at e
      subst e
      exact view_news ⟨hv.1, hv.2⟩ j u hj)
    have HL : Hid (L.length = len) := Lib.hid hv.1
    clear hv
    go_enter Try.func43, Try.ntmps43
    go_wp2_with (at_builtin; refine wpList_append_own _ rfl _ _ 23 rfl w.heap.size 5 i0 (.int .u8 0) 1 1 Try.underlying23 hi hz0 hz1 hz2 rfl (by decide) _ _ _ rfl (World.ownsRow_made w #[] 0 (Nat.le_refl _) (Nat.zero_le _) (by simp)) x len cap (L.map (Value.int .u8)) rfl ?qc1 ?qc2 ?qc3 ?qc4 ?qc5 ?qc6 ?_)
    case qc1 => rw [List.length_map, HL.out]; omega
    case qc2 =>
      intro j u hj
      exact Lib.cell?_alloc_some _ (HN.out j u hj)
    case qc3 => exact news_one
    case qc4 => unfold maxLen; omega
    case qc5 => omega
    case qc6 => simp
    intro v' w1 hown hgrow hnil
    have HB : Hid (Below w.heap.size w w1) := Lib.hid (((Below.refl _ w).alloc (Nat.le_refl _) _).grown hgrow (by simp) (fun q hq => by simp [Value.ownBlock] at hq; omega))
    have HO : Hid (w1.ownsRow w.heap.size 5 1 v' L.length (L.map (Value.int .u8))) := Lib.hid (by rw [HL.out]; simpa using hown)
    clear hown hgrow hnil
    go_wp2_with fail
    go_ret
    obtain ⟨a, c, e, h1, h2⟩ := own_view HO.out
    exact ⟨_, rfl, ⟨a, _, c, e, h1, h2⟩, HB.out⟩
end Go.Proofs.Ytfphejndbnmfeab
