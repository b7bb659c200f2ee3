import Derived.Test.YtjcaadihkbhlhaaDoorL6
import Derived.Test.YtjcaadihkbhlhaaDoorH8
import Derived.OwnWalk
import Derived.Laws.IdiomStrings
import Derived.Lib.BufferRead
import Derived.Deep.RegionLawGrows
namespace Go.Proofs.YtjcaadihkbhlhaaDoor
open Go.RowKit
def bv (b : UInt8) : Value := .int .u8 (b.toNat : Nat)
theorem infoB : ∃ i, Tryd.prog.info? 5 = some i ∧ i.zero = some (.int .u8 0) ∧ i.size = 1 ∧ i.bytes = 1 := by
  have h := Tryd.typeInfo5 default
  unfold typeInfo at h
  cases hq : Tryd.prog.info? 5 with
  | none => simp [hq] at h
  | some i =>
    simp [hq] at h
    exact ⟨i, rfl, by rw [h]; rfl, by rw [h]; rfl, by rw [h]; rfl⟩
theorem conv_own {w : World} {B : Nat} {v : Value} {L : List UInt8} (h : w.ownsRow B 5 1 v L.length (L.map bv)) :
    (convert 49 9 v).run Tryd.prog w = .ok (.string (mk L)) w := by
  rcases h.2 with ⟨rfl, hn⟩ | ⟨g, cap, cur, rfl, hg, hgg, h1, h2, h3, h4⟩
  · have : L = [] := by cases L <;> simp_all
    subst this
    exact Lib.run_convert_nil_bytes w 49 9 5 0 Tryd.underlying49 Tryd.underlying5 Tryd.underlying9
  · exact run_convert_bytes_back (P := Tryd.prog) w 49 9 5 ⟨g, 0, none⟩ cap L Tryd.underlying49 Tryd.underlying5 Tryd.underlying9 (fun j hj => by
      rw [Addr.add_lit, Nat.zero_add, h.cellAt j (by omega)]
      simp only [List.getElem?_map, List.getElem?_eq_getElem hj, Option.map_some]
      rfl)
theorem news_at (w : World) (cs : Array Value) (t : TypeId) (L : List Value) (h : cs.toList = L) : ∀ j u, L[j]? = some u → (w.alloc (.cells cs t)).cell? ((⟨w.heap.size, 0, none⟩ : Addr).add j) = some u := by
  subst h
  intro j u hj
  simp only [Addr.add_lit, Nat.zero_add, World.cell?, heap_alloc_new]
  simpa using hj
theorem step_append_own {P : Program} {ops : Array Oper} {o : Oper} {a : Act} {w : World} {K : Act → World → Prop} {Q : Exit → Act → World → Prop} {E : Prop}
    (hg : o.guard = none) (s x : Operand) (t : TypeId) (hop : o.op = Op.call { callee := Callee.builtin Builtin.append, args := #[s, x], argTypes := #[t, t] })
    (e : TypeId) (i : TypeInfo) (z : Value) (size bytes : Nat) (h1 : P.underlying t = some (.slice e)) (h2 : P.info? e = some i) (h3 : i.zero = some z) (h4 : i.size = size) (h5 : i.bytes = bytes) (h6 : z.cells.size = size) (h7 : 0 < size)
    (B : Nat) (v : Value) (n : Nat) (olds : List Value) (hs : a.eval s = v) (hown : w.ownsRow B e size v n olds)
    (ad : Addr) (m c : Nat) (news : List Value) (hx : a.eval x = .slice (some ad) m c) (hn : news.length = m * size) (hc : ∀ j u, news[j]? = some u → w.cell? (ad.add j) = some u) (h1c : ∀ u ∈ news, u.oneCell' = true)
    (b1 : n + m ≤ maxLen) (b2 : (n + m) * bytes ≤ 140737488355328) (hB : B ≤ w.heap.size)
    (hK : ∀ v' w', w'.ownsRow B e size v' (n + m) (olds ++ news) → w.grownBy w' v.ownBlock → K (a.put o.dst v') w') :
    if Region.wanted o (yielded ops a.tmps) = true then Oper.wp P o a w K Q else E := by
  have hw : Region.wanted o (yielded ops a.tmps) = true := by simp [Region.wanted, hg]
  rw [if_pos hw]
  obtain ⟨v', w', hrun, r1, r2, _⟩ := run_append_own (P := P) w B t o.type e i z size bytes h1 h2 h3 h4 h5 h6 h7 v n olds hown ad m c news hn hc h1c b1 b2 hB
  unfold Oper.wp
  simp [execOp, hop, resolve, invoke, builtin, hs, hx, hrun, Result.andThen]
  exact hK v' w' r1 r2
theorem hexU_at (n : Nat) (h : n < 16) (w : World) (k : IntKind) : (Instr.index 9 (.string ⟨#[48, 49, 50, 51, 52, 53, 54, 55, 56, 57, 65, 66, 67, 68, 69, 70]⟩) (.int k (n : Int))).run Tryd.prog w = .ok (bv (digU n)) w := by
  rw [run_index_string _ _ _ _ _ Tryd.underlying9]
  rcases (show n = 0 ∨ n = 1 ∨ n = 2 ∨ n = 3 ∨ n = 4 ∨ n = 5 ∨ n = 6 ∨ n = 7 ∨ n = 8 ∨ n = 9 ∨ n = 10 ∨ n = 11 ∨ n = 12 ∨ n = 13 ∨ n = 14 ∨ n = 15 by omega) with rfl | rfl | rfl | rfl | rfl | rfl | rfl | rfl | rfl | rfl | rfl | rfl | rfl | rfl | rfl | rfl <;> rfl
theorem low_val (b : UInt8) : (Lib.lowerB b).toNat = if 65 ≤ b.toNat ∧ b.toNat ≤ 90 then b.toNat + 32 else b.toNat := by
  have := by256 (P := fun b => decide ((Lib.lowerB b).toNat = if 65 ≤ b.toNat ∧ b.toNat ≤ 90 then b.toNat + 32 else b.toNat)) (by decide +kernel) b
  exact of_decide_eq_true this
theorem rI8 {x y : Int} (h : x = y) : Ending.returned (.int .u8 x) = Ending.returned (.int .u8 y) := by rw [h]
set_option maxRecDepth 20000 in
theorem small_any (b : UInt8) (w : World) : Calls Tryd.prog 69 #[.int .u8 (b.toNat : Nat)] w fun e w' => e = .returned (.int .u8 ((Lib.lowerB b).toNat : Nat)) ∧ w' = w := by
  have hV := low_val b
  have hlt := UInt8.toNat_lt b
  obtain ⟨v, hv⟩ : ∃ v, v = (Lib.lowerB b).toNat := ⟨_, rfl⟩
  rw [← hv] at hV ⊢
  clear hv
  obtain ⟨n, hn⟩ : ∃ n, n = b.toNat := ⟨_, rfl⟩
  rw [← hn] at hV hlt ⊢
  clear hn
  by_cases h1 : 65 ≤ n
  · by_cases h2 : n ≤ 90
    · rw [if_pos ⟨h1, h2⟩] at hV
      have g1 : (65 : Int) ≤ (n : Int) := by omega
      have g2 : (n : Int) ≤ 90 := by omega
      have HV := Lib.hid hV
      clear hV h1 h2
      go_enter Tryd.func69, Tryd.ntmps69
      go_wp2_with fail
      go_ret
      exact ⟨rI8 (by have := HV.out; omega), rfl⟩
    · rw [if_neg (by omega)] at hV
      have g1 : (65 : Int) ≤ (n : Int) := by omega
      have g2 : ¬ (n : Int) ≤ 90 := by omega
      have HV := Lib.hid hV
      clear hV h1 h2
      go_enter Tryd.func69, Tryd.ntmps69
      go_wp2_with fail
      go_ret
      exact ⟨rI8 (by have := HV.out; omega), rfl⟩
  · rw [if_neg (by omega)] at hV
    have g1 : ¬ (65 : Int) ≤ (n : Int) := by omega
    have HV := Lib.hid hV
    clear hV h1
    go_enter Tryd.func69, Tryd.ntmps69
    go_wp2_with fail
    go_ret
    exact ⟨rI8 (by have := HV.out; omega), rfl⟩
theorem esc_two {s : ByteArray} {i : Nat} (h2 : i + 2 < s.size) (he : esc (s.data.toList.drop i) = true) : hexV s[i + 1].toNat = (hexN s[i + 1].toNat : Nat) ∧ hexV s[i + 2].toNat = (hexN s[i + 2].toNat : Nat) ∧ escV (s.data.toList.drop i) = 16 * hexN s[i + 1].toNat + hexN s[i + 2].toNat := by
  have HE := he
  rw [esc_at, dif_pos h2] at HE
  simp only [Bool.and_eq_true, hexB, decide_eq_true_eq] at HE
  refine ⟨?_, ?_, ?_⟩
  · unfold hexN; have := HE.2.1; omega
  · unfold hexN; have := HE.2.2; omega
  · rw [drop_at s i (by omega), drop_at s (i + 1) (by omega), drop_at s (i + 2) (by omega)]
    rfl
end Go.Proofs.YtjcaadihkbhlhaaDoor
