import Derived.Test.YtfphejndbnmfeaaDoorU1
import Derived.OwnWalk
import Derived.Laws.IdiomStrings
import Derived.Laws.BitsLemmas
import Derived.Lib.BufferRead
import Derived.Deep.RegionLawGrows
namespace Go.Proofs.YtfphejndbnmfeaaDoor
open Go.RowKit

theorem info5 : ∃ i, Tryd.prog.info? 5 = some i ∧ i.zero = some (.int .u8 0) ∧ i.size = 1 ∧ i.bytes = 1 := by
  have h := Tryd.typeInfo5 default
  unfold typeInfo at h
  cases hq : Tryd.prog.info? 5 with
  | none => simp [hq] at h
  | some i =>
    simp [hq] at h
    exact ⟨i, rfl, by rw [h]; rfl, by rw [h]; rfl, by rw [h]; rfl⟩
/-- What the table of parts holds. -/
def Prt (w : World) : Prop := 0 < w.heap.size ∧ w.cell? ⟨0, 0, none⟩ = some (.int .i64 4) ∧ w.cell? ⟨0, 1, none⟩ = some (.int .i64 2) ∧ w.cell? ⟨0, 2, none⟩ = some (.int .i64 2) ∧ w.cell? ⟨0, 3, none⟩ = some (.int .i64 2) ∧ w.cell? ⟨0, 4, none⟩ = some (.int .i64 6)
theorem Prt.below {w w' : World} {B : Nat} (h : Prt w) (hb : Below B w w') (hB : 0 < B) : Prt w' := by
  obtain ⟨h0, h1, h2, h3, h4, h5⟩ := h
  refine ⟨by have := hb.size; omega, ?_, ?_, ?_, ?_, ?_⟩
  · rw [hb.cell (p := ⟨0, 0, none⟩) hB]; exact h1
  · rw [hb.cell (p := ⟨0, 1, none⟩) hB]; exact h2
  · rw [hb.cell (p := ⟨0, 2, none⟩) hB]; exact h3
  · rw [hb.cell (p := ⟨0, 3, none⟩) hB]; exact h4
  · rw [hb.cell (p := ⟨0, 4, none⟩) hB]; exact h5
theorem txP_len (L : List Int) : ∀ k, k ≤ 5 → (txP L k).length ≤ 36 := by
  intro k hk
  rcases (show k = 0 ∨ k = 1 ∨ k = 2 ∨ k = 3 ∨ k = 4 ∨ k = 5 by omega) with rfl | rfl | rfl | rfl | rfl | rfl <;> simp [txP, dgs, szs]
theorem dgs_len (L : List Int) (a : Nat) : ∀ m, (dgs L a m).length = 2 * m
  | 0 => rfl
  | m + 1 => by simp only [dgs, List.length_append, dgs_len L a m]; simp; omega
theorem ofs_le : ∀ k, k < 5 → ofs k + szs.getD k 0 ≤ 16 ∧ 1 ≤ szs.getD k 0 := by decide
theorem idx83 (w : World) (k : Nat) (hk : k < 5) : (Instr.index 83 (.agg #[.int .i64 4, .int .i64 2, .int .i64 2, .int .i64 2, .int .i64 6]) (.int .i64 (k : Int))).run Tryd.prog w = .ok (.int .i64 (szs.getD k 0 : Nat)) w := by
  rcases (show k = 0 ∨ k = 1 ∨ k = 2 ∨ k = 3 ∨ k = 4 by omega) with rfl | rfl | rfl | rfl | rfl <;> simp [Instr.index, asIntOf, run_underlying Tryd.underlying83, part, go_sem, szs]
def hexS : ByteArray := ⟨#[48, 49, 50, 51, 52, 53, 54, 55, 56, 57, 97, 98, 99, 100, 101, 102]⟩
theorem hexS_at (n : Int) (h0 : 0 ≤ n) (h1 : n < 16) (w : World) (k : IntKind) : (Instr.index 9 (.string ⟨#[48, 49, 50, 51, 52, 53, 54, 55, 56, 57, 97, 98, 99, 100, 101, 102]⟩) (.int k n)).run Tryd.prog w = .ok (.int .u8 (dg n)) w := by
  rw [run_index_string _ _ _ _ _ Tryd.underlying9]
  rcases (show n = 0 ∨ n = 1 ∨ n = 2 ∨ n = 3 ∨ n = 4 ∨ n = 5 ∨ n = 6 ∨ n = 7 ∨ n = 8 ∨ n = 9 ∨ n = 10 ∨ n = 11 ∨ n = 12 ∨ n = 13 ∨ n = 14 ∨ n = 15 by omega) with rfl | rfl | rfl | rfl | rfl | rfl | rfl | rfl | rfl | rfl | rfl | rfl | rfl | rfl | rfl | rfl <;> rfl
theorem conv_own {w : World} {B : Nat} {v : Value} {L : List Int} (h : w.ownsRow B 5 1 v L.length (L.map (Value.int .u8))) (hr : ∀ x ∈ L, 0 ≤ x ∧ x < 256) :
    (convert 45 9 v).run Tryd.prog w = .ok (.string (mkB L)) w := by
  rcases h.2 with ⟨rfl, hn⟩ | ⟨g, cap, cur, rfl, hg, hgg, h1, h2, h3, h4⟩
  · have : L = [] := by cases L <;> simp_all
    subst this
    exact Lib.run_convert_nil_bytes w 45 9 5 0 Tryd.underlying45 Tryd.underlying5 Tryd.underlying9
  · have k := run_convert_bytes_back (P := Tryd.prog) w 45 9 5 ⟨g, 0, none⟩ cap (L.map (fun x => UInt8.ofNat x.toNat)) Tryd.underlying45 Tryd.underlying5 Tryd.underlying9 (fun j hj => by
      have hj' : j < L.length := by simpa using hj
      have hx := hr L[j] (List.getElem_mem hj')
      rw [Addr.add_lit, Nat.zero_add, h.cellAt j (by omega)]
      simp only [List.getElem?_map, List.getElem?_eq_getElem hj', Option.map_some, List.getElem_map, Option.some.injEq, Value.int.injEq, true_and]
      rw [UInt8.toNat_ofNat']; omega)
    rw [List.length_map] at k
    exact k
theorem cell_news (w : World) (cs : Array Value) (t : TypeId) (L : List Value) (h : cs.toList = L) : ∀ j u, L[j]? = some u → (w.alloc (.cells cs t)).cell? ((⟨w.heap.size, 0, none⟩ : Addr).add j) = some u := by
  subst h
  intro j u hj
  simp only [Addr.add_lit, Nat.zero_add, World.cell?, heap_alloc_new]
  simpa using hj
theorem slice16 (w : World) (b a n : Nat) (h : a + n ≤ 16) (hn : 1 ≤ n) :
    (Instr.sliceAt 50 (.pointer (some ⟨b, 0, none⟩)) (some (.int .i64 (a : Int))) (some (.int .i64 ((a : Int) + (n : Int)))) (some (.int .i64 ((a : Int) + (n : Int))))).run Tryd.prog w = .ok (.slice (some ⟨b, a, none⟩) n n) w := by
  have e : ((a : Int) + (n : Int)).toNat = a + n := by omega
  have h1 : (a : Int) + (n : Int) ≤ 16 := by omega
  have h2 : (0 : Int) ≤ (a : Int) + (n : Int) := by omega
  have h3 : (a : Int) ≤ (a : Int) + (n : Int) := by omega
  have h4 : ¬ n = 0 := by omega
  simp [Instr.sliceAt, Instr.sureAddr, run_underlying Tryd.underlying50, Instr.sliceBounds, run_sliceBound, e, h1, h2, h3, h4, Tryd.sizeOf5]
  rw [Addr.add_lit, Nat.zero_add]
theorem step_append_own {P : Program} {ops : Array Oper} {o : Oper} {a : Act} {w : World} {K : Act → World → Prop} {Q : Exit → Act → World → Prop} {E : Prop}
    (hg : o.guard = none) (s x : Operand) (t : TypeId) (hop : o.op = Op.call { callee := Callee.builtin Builtin.append, args := #[s, x], argTypes := #[t, t] })
    (e : TypeId) (i : TypeInfo) (z : Value) (size bytes : Nat) (h1 : P.underlying t = some (.slice e)) (h2 : P.info? e = some i) (h3 : i.zero = some z) (h4 : i.size = size) (h5 : i.bytes = bytes) (h6 : z.cells.size = size) (h7 : 0 < size)
    (B : Nat) (v : Value) (n : Nat) (olds : List Value) (hs : a.eval s = v) (hown : w.ownsRow B e size v n olds)
    (ad : Addr) (m c : Nat) (news : List Value) (hx : a.eval x = .slice (some ad) m c) (hn : news.length = m * size) (hc : ∀ j u, news[j]? = some u → w.cell? (ad.add j) = some u) (h1c : ∀ u ∈ news, u.oneCell' = true)
    (b1 : n + m ≤ maxLen) (b2 : (n + m) * bytes ≤ 140737488355328) (hB : B ≤ w.heap.size)
    (hK : ∀ v' w', w'.ownsRow B e size v' (n + m) (olds ++ news) → w.grownBy w' v.ownBlock → K (a.put o.dst v') w') :
    if Region.wanted o (yielded ops a.tmps) = true then Oper.wp P o a w K Q else E := by
  have hw : Region.wanted o (yielded ops a.tmps) = true := by simp [Region.wanted, hg]
  rw [if_pos hw]
  obtain ⟨v', w', hrun, r1, r2, _⟩ := run_append_own (P := P) w B t o.type e i z size bytes h1 h2 h3 h4 h5 h6 h7 v n olds hown ad m c news hn hc h1c b1 b2 hB
  unfold Oper.wp
  simp [execOp, hop, resolve, invoke, builtin, hs, hx, hrun, Result.andThen]
  exact hK v' w' r1 r2
end Go.Proofs.YtfphejndbnmfeaaDoor
