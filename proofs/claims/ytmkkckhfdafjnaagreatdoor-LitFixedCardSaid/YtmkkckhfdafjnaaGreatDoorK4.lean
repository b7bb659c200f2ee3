import Derived.Test.YtmkkckhfdafjnaaGreatDoorK3
import Derived.Laws.StructEq
import Derived.Laws.AppendOwnNone
import Derived.Test.YtmkkckhfdafjnaaGreatDoorK1
import Derived.Laws.IdiomStrings
import Derived.Lib.BufferRead
import Derived.Deep.RegionWith
import Derived.Deep.QuietTactic
import Derived.BigQuiet
import Derived.WalkKit
import Derived.Test.YtmkkckhfdafjnaaGreatDoorShelf
import Derived.WalkSpells
import Derived.WalkLawsBesides
import Derived.Outline
import Derived.Laws.Externs
import Derived.Lib.Hide
import Derived.Lib.Strings
/- Layer 3: how large cells are; whether two rows are the same. -/
namespace Go.Proofs.YtmkkckhfdafjnaaGreatDoor
open Go.RowKit Go.Maps
def bigC (c : CR) : Bool := decide (300 < c.nm.size) || decide (3000 < c.tx.size)
def grP (g : Nat → CR) (n most : Nat) : Bool := decide (most < n) || (List.range n).any fun i => bigC (g i)
theorem gr_big {g : Nat → CR} {n most i : Nat} (hi : i < n) (h : bigC (g i) = true) : grP g n most = true := by
  unfold grP
  rw [Bool.or_eq_true]
  exact .inr (List.any_eq_true.2 ⟨i, List.mem_range.2 hi, h⟩)
theorem gr_no {g : Nat → CR} {n most : Nat} (hn : n ≤ most) (h : ∀ j, j < n → bigC (g j) = false) : grP g n most = false := by
  unfold grP
  rw [Bool.or_eq_false_iff]
  refine ⟨by simpa using hn, ?_⟩
  rw [List.any_eq_false]
  intro i hi
  rw [h i (List.mem_range.1 hi)]
  simp
theorem gr_small {g : Nat → CR} {n most : Nat} (h : grP g n most = false) : n ≤ most ∧ ∀ i, i < n → (g i).nm.size ≤ 300 ∧ (g i).tx.size ≤ 3000 := by
  unfold grP at h
  rw [Bool.or_eq_false_iff] at h
  refine ⟨by simpa using h.1, fun i hi => ?_⟩
  have := (List.any_eq_false.1 h.2) i (List.mem_range.2 hi)
  unfold bigC at this
  simp only [Bool.or_eq_true, decide_eq_true_eq, not_or, Nat.not_lt] at this
  exact this
set_option maxRecDepth 20000 in
set_option maxHeartbeats 1000000 in
theorem great_any (a : Option Addr) (n cap most : Nat) (mv : Int) (hmv : mv = (most : Nat)) (g : Nat → CR) (w : World) (hv : CV w a n g) (hn : n ≤ maxLen) (hm : most ≤ 1000000) : Calls Tryz.prog 15 #[.slice a n cap, .int .i64 mv] w fun r w' => r = .returned (.bool (grP g n most)) ∧ w' = w := by
  subst hmv
  unfold maxLen at hn
  obtain ⟨x, hx⟩ : ∃ x, x = grP g n most := ⟨_, rfl⟩
  rw [← hx]
  replace hx := Lib.hid hx
  have HV := Lib.hid hv
  clear hv
  have hn' : (n : Int) ≤ 9223372036854775807 := by omega
  have hm' : (most : Int) ≤ 1000000 := by omega
  go_enter Tryz.func15, Tryz.ntmps15
  go_wp2_with fail
  go_loop [5] (fun v5 => ∃ i : Nat, i ≤ n ∧ i ≤ most ∧ v5 = .int .i64 i ∧ Hid (∀ j, j < i → bigC (g j) = false)) (fun v5 => n - (intOf v5).toNat)
  case atStart => exact ⟨0, Nat.zero_le _, Nat.zero_le _, rfl, Lib.hid (fun j hj => by omega)⟩
  case round =>
    obtain ⟨i, hi, him, rfl, HN⟩ := hrel
    by_cases h1 : i < n
    · by_cases h2 : i < most
      · obtain ⟨b, off, rfl⟩ := HV.out.addr (by omega)
        obtain ⟨_, _, c1, c2, _, _⟩ := HV.out.at_ h1
        have hg1 : (i : Int) < n := by omega
        have hg0 : (0 : Int) ≤ i := by omega
        have hg2 : (i : Int) < most := by omega
        obtain ⟨nm, hnm⟩ : ∃ s, s = (g i).nm := ⟨_, rfl⟩
        obtain ⟨tx, htx⟩ : ∃ s, s = (g i).tx := ⟨_, rfl⟩
        rw [← hnm] at c1
        rw [← htx] at c2
        have hbc : Hid (bigC (g i) = (decide (300 < nm.size) || decide (3000 < tx.size))) := Lib.hid (by rw [hnm, htx]; rfl)
        clear hnm htx
        by_cases k1 : (300 : Int) < nm.size
        · have HX : Hid (x = true) := Lib.hid (by rw [hx.out]; exact gr_big h1 (by rw [hbc.out, decide_eq_true (show 300 < nm.size by omega)]; rfl))
          clear HN hbc
          go_wp2_with fail
          go_ret
          exact ⟨ret_bool HX.out.symm, rfl⟩
        · by_cases k2 : (3000 : Int) < tx.size
          · have HX : Hid (x = true) := Lib.hid (by rw [hx.out]; exact gr_big h1 (by rw [hbc.out, decide_eq_true (show 3000 < tx.size by omega)]; simp))
            clear HN hbc
            go_wp2_with fail
            go_ret
            exact ⟨ret_bool HX.out.symm, rfl⟩
          · have HN2 : Hid (∀ j, j < i + 1 → bigC (g j) = false) := Lib.hid (fun j hj => by
              by_cases e : j = i
              · subst e; rw [hbc.out, decide_eq_false (show ¬ 300 < nm.size by omega), decide_eq_false (show ¬ 3000 < tx.size by omega)]; rfl
              · exact HN.out j (by omega))
            clear HN hbc
            go_wp2_with fail
            go_round
            case rel => exact ⟨i + 1, by omega, by omega, by go_num, HN2⟩
            case measure => simp [intOf]; omega
      · have e2 : i = most := by omega
        subst e2
        have HX : Hid (x = true) := Lib.hid (by rw [hx.out]; unfold grP; rw [decide_eq_true h1]; rfl)
        have hg1 : (i : Int) < n := by omega
        have hg2 : ¬ (i : Int) < i := by omega
        clear HN
        go_wp2_with fail
        go_ret
        exact ⟨ret_bool HX.out.symm, rfl⟩
    · have e1 : i = n := by omega
      subst e1
      have HX : Hid (x = false) := Lib.hid (by rw [hx.out]; exact gr_no him HN.out)
      have hg1 : ¬ (i : Int) < i := by omega
      have hg2 : ¬ (most : Int) < i := by omega
      clear HN
      go_wp2_with fail
      go_ret
      exact ⟨ret_bool HX.out.symm, rfl⟩
end Go.Proofs.YtmkkckhfdafjnaaGreatDoor
/- Layer 3: two cells against each other; two rows. -/
namespace Go.Proofs.YtmkkckhfdafjnaaGreatDoor
open Go.RowKit Go.Maps
deriving instance DecidableEq for CR
theorem cell_dec (k1 k2 : Nat) (a1 a2 b1 b2 : ByteArray) (n1 n2 m1 m2 : Int) : decide ((⟨k1, a1, b1, n1, m1⟩ : CR) = ⟨k2, a2, b2, n2, m2⟩) = (decide ((k1 : Int) = k2) && (decide (a1 = a2) && (decide (b1 = b2) && (decide (n1 = n2) && decide (m1 = m2))))) := by
  rw [Bool.eq_iff_iff]
  simp only [decide_eq_true_eq, Bool.and_eq_true, CR.mk.injEq]
  constructor
  · rintro ⟨h1, h2, h3, h4, h5⟩; exact ⟨by omega, h2, h3, h4, h5⟩
  · rintro ⟨h1, h2, h3, h4, h5⟩; exact ⟨by omega, h2, h3, h4, h5⟩
theorem neq_cell (c d : CR) (w : World) : (binOp .neq 46 (cv c) (cv d)).run Tryz.prog w = .ok (.bool !(decide (c = d))) w := by
  obtain ⟨k1, a1, b1, n1, m1⟩ := c
  obtain ⟨k2, a2, b2, n2, m2⟩ := d
  rw [cell_dec]
  unfold cv
  have a3 := Tryz.isAgg5
  have a4 := Tryz.isAgg9
  have a5 := Tryz.isAgg2
  have a6 := Tryz.isAgg3
  have z3 := Tryz.sizeOf5
  have z4 := Tryz.sizeOf9
  have z5 := Tryz.sizeOf2
  have z6 := Tryz.sizeOf3
  have u3 := Tryz.underlying5
  have u4 := Tryz.underlying9
  have u5 := Tryz.underlying2
  have u6 := Tryz.underlying3
  have hS : Tryz.prog.underlying 46 = some (.struct (Tryz.prog.fieldsOf 46)) := by kernel_rfl
  have hp : Tryz.prog.stoodInHeld 46 = false := by kernel_rfl
  rw [run_neq_struct, show (10000 : Nat) = 9999 + 1 from rfl, run_equalIn_agg w 9999 46 _ _ hS hp]
  simp only [Program.fieldsOf, Tryz.underlying46]
  have e1 : (a1.toList == a2.toList) = decide (a1 = a2) := str_is
  have e2 : (b1.toList == b2.toList) = decide (b1 = b2) := str_is
  go_simp
  by_cases h1 : (k1 : Int) = k2 <;> by_cases h2 : a1 = a2 <;> by_cases h3 : b1 = b2 <;> by_cases h4 : n1 = n2 <;> by_cases h5 : m1 = m2 <;> simp [h1, h2, h3, h4, h5, e1, e2]
/-- Are two rows the same? -/
def smB (g1 : Nat → CR) (n1 : Nat) (g2 : Nat → CR) (n2 : Nat) : Bool := decide (n1 = n2) && (List.range n1).all fun i => decide (g1 i = g2 i)
theorem sm_no {g1 g2 : Nat → CR} {n i : Nat} (hi : i < n) (h : g1 i ≠ g2 i) : smB g1 n g2 n = false := by
  unfold smB
  rw [Bool.and_eq_false_iff]
  refine .inr (List.all_eq_false.2 ⟨i, List.mem_range.2 hi, by simpa using h⟩)
theorem sm_yes {g1 g2 : Nat → CR} {n : Nat} (h : ∀ j, j < n → g1 j = g2 j) : smB g1 n g2 n = true := by
  unfold smB
  rw [Bool.and_eq_true]
  exact ⟨by simp, List.all_eq_true.2 fun i hi => by simpa using h i (List.mem_range.1 hi)⟩
theorem sm_lists {L M : List CR} (h : L = M) : smB (gl L) L.length (gl M) M.length = true := by subst h; exact sm_yes fun _ _ => rfl
theorem sm_eq {g1 g2 : Nat → CR} {n1 n2 : Nat} (h : smB g1 n1 g2 n2 = true) : n1 = n2 ∧ ∀ i, i < n1 → g1 i = g2 i := by
  unfold smB at h
  simp only [Bool.and_eq_true, decide_eq_true_eq, List.all_eq_true, List.mem_range] at h
  exact h
set_option maxRecDepth 20000 in
set_option maxHeartbeats 1000000 in
theorem rsame_any (a1 a2 : Option Addr) (n1 n2 c1 c2 : Nat) (g1 g2 : Nat → CR) (w : World) (hv1 : CV w a1 n1 g1) (hv2 : CV w a2 n2 g2) (hn : n1 ≤ maxLen) : Calls Tryz.prog 21 #[.slice a1 n1 c1, .slice a2 n2 c2] w fun r w' => r = .returned (.bool (smB g1 n1 g2 n2)) ∧ Below w.heap.size w w' := by
  unfold maxLen at hn
  obtain ⟨x, hx⟩ : ∃ x, x = smB g1 n1 g2 n2 := ⟨_, rfl⟩
  rw [← hx]
  replace hx := Lib.hid hx
  by_cases he : n1 = n2
  · subst he
    have HV1 := Lib.hid hv1
    have HV2 := Lib.hid hv2
    clear hv1 hv2
    have hn' : (n1 : Int) ≤ 9223372036854775807 := by omega
    have hne : ((n1 : Int) != n1) = false := by simp
    go_enter Tryz.func21, Tryz.ntmps21
    go_wp2_with fail
    go_loopw [5] (fun v5 wr => ∃ i : Nat, i ≤ n1 ∧ v5 = .int .i64 i ∧ Hid (∀ j, j < i → g1 j = g2 j) ∧ Hid (Below w.heap.size w wr)) (fun v5 _ => n1 - (intOf v5).toNat)
    case atStart => exact ⟨0, Nat.zero_le _, rfl, Lib.hid (fun j hj => by omega), Lib.hid (Below.refl _ _)⟩
    case round =>
      obtain ⟨i, hi, rfl, HN, HB⟩ := hrel
      by_cases h1 : i < n1
      · obtain ⟨b, off, rfl⟩ := HV1.out.addr (by omega)
        obtain ⟨b', off', rfl⟩ := HV2.out.addr (by omega)
        obtain ⟨_, d0, d1, d2, d3, d4⟩ := (HV1.out.below HB.out).at_ h1
        obtain ⟨_, e0, e1, e2, e3, e4⟩ := (HV2.out.below HB.out).at_ h1
        have hg1 : (i : Int) < n1 := by omega
        have hg0 : (0 : Int) ≤ i := by omega
        obtain ⟨c, hc⟩ : ∃ c, c = g1 i := ⟨_, rfl⟩
        obtain ⟨d, hd⟩ : ∃ d, d = g2 i := ⟨_, rfl⟩
        rw [← hc] at d0 d1 d2 d3 d4
        rw [← hd] at e0 e1 e2 e3 e4
        have hq := neq_cell c d
        unfold cv at hq
        have hgd : ∀ (op : BinOp) (x y : Operand) (xs ys : Array Value) (W : World), (eqGuard op 46 x y (.agg xs) (.agg ys)).run Tryz.prog W = .ok () W := fun op x y xs ys W => run_eqGuard_agg W op _ x y xs ys (by kernel_rfl)
        by_cases hcd : c = d
        · have HN2 : Hid (∀ j, j < i + 1 → g1 j = g2 j) := Lib.hid (fun j hj => by
            by_cases e : j = i
            · subst e; rw [← hc, ← hd]; exact hcd
            · exact HN.out j (by omega))
          rw [decide_eq_true hcd] at hq
          clear HN hc hd hcd
          go_wp2_with fail
          go_quiet (fail)
          go_wp2_with fail
          go_roundw
          case rel => exact ⟨i + 1, by omega, by go_num, HN2, Lib.hid ⟨HB.out.os, HB.out.tape, HB.out.output, HB.out.size, HB.out.block⟩⟩
          case measure => simp [intOf]; omega
        · have HX : Hid (x = false) := Lib.hid (by rw [hx.out]; exact sm_no h1 (by rw [← hc, ← hd]; exact hcd))
          rw [decide_eq_false hcd] at hq
          clear HN hc hd hcd
          go_wp2_with fail
          go_quiet (fail)
          go_wp2_with fail
          go_ret
          exact ⟨ret_bool HX.out.symm, ⟨HB.out.os, HB.out.tape, HB.out.output, HB.out.size, HB.out.block⟩⟩
      · have e1 : i = n1 := by omega
        subst e1
        have HX : Hid (x = true) := Lib.hid (by rw [hx.out]; exact sm_yes HN.out)
        have hg1 : ¬ (i : Int) < i := by omega
        clear HN
        go_wp2_with fail
        go_ret
        exact ⟨ret_bool HX.out.symm, HB.out⟩
  · have HX : Hid (x = false) := Lib.hid (by rw [hx.out]; unfold smB; rw [decide_eq_false he]; rfl)
    have hne : ((n1 : Int) != n2) = true := by simp; omega
    have hne2 : ((n1 : Int) == n2) = false := by rw [beq_eq_false_iff_ne]; omega
    clear he
    go_enter Tryz.func21, Tryz.ntmps21
    go_wp2_with fail
    go_ret
    exact ⟨ret_bool HX.out.symm, Below.refl _ _⟩
end Go.Proofs.YtmkkckhfdafjnaaGreatDoor
/- Layer 3: Twin, Sub. -/
namespace Go.Proofs.YtmkkckhfdafjnaaGreatDoor
open Go.RowKit Go.Maps
theorem cv_news {w : World} {b off n : Nat} {g : Nat → CR} (h : CV w (some ⟨b, off, none⟩) n g) : ∀ j u, (rw5 (cut g 0 n))[j]? = some u → w.cell? ((⟨b, off, none⟩ : Addr).add j) = some u := by
  intro j u hj
  have hlt := (List.getElem?_eq_some_iff.1 hj).1
  rw [rw5_len, cut_len, Nat.sub_zero] at hlt
  have hi : j / 5 < n := by omega
  obtain ⟨_, c0, c1, c2, c3, c4⟩ := h.at_ hi
  obtain ⟨a0, a1, a2, a3, a4⟩ := rw5_at (cut g 0 n) (j / 5) (by rw [cut_len]; omega)
  have eg : gl (cut g 0 n) (j / 5) = g (j / 5) := by rw [cut_at g 0 n _ (by omega), Nat.zero_add]
  rw [eg] at a0 a1 a2 a3 a4
  rw [Addr.add_lit]
  show w.cell? ⟨b, off + j, none⟩ = some u
  rcases (by omega : j = j / 5 * 5 ∨ j = j / 5 * 5 + 1 ∨ j = j / 5 * 5 + 2 ∨ j = j / 5 * 5 + 3 ∨ j = j / 5 * 5 + 4) with e | e | e | e | e
  · rw [e] at hj ⊢; rw [a0] at hj; rw [c0]; exact hj
  · rw [e] at hj ⊢; rw [a1] at hj; rw [← Nat.add_assoc, c1]; exact hj
  · rw [e] at hj ⊢; rw [a2] at hj; rw [← Nat.add_assoc, c2]; exact hj
  · rw [e] at hj ⊢; rw [a3] at hj; rw [← Nat.add_assoc, c3]; exact hj
  · rw [e] at hj ⊢; rw [a4] at hj; rw [← Nat.add_assoc, c4]; exact hj
theorem rw5_one (L : List CR) : ∀ u ∈ rw5 L, u.oneCell' = true := by
  intro u hu
  unfold rw5 at hu
  obtain ⟨c, _, hc⟩ := List.mem_flatMap.1 hu
  simp at hc
  rcases hc with rfl | rfl | rfl | rfl | rfl <;> rfl
/-- Twin, whichever of the two. -/
def TwinPost (w : World) (n : Nat) (g : Nat → CR) (r : Ending) (w' : World) : Prop := ∃ v, r = .returned v ∧ w'.ownsRow w.heap.size 46 5 v n (rw5 (cut g 0 n)) ∧ Below w.heap.size w w'
end Go.Proofs.YtmkkckhfdafjnaaGreatDoor
/- Layer 3: a name written into a row; Sub. -/
namespace Go.Proofs.YtmkkckhfdafjnaaGreatDoor
open Go.RowKit Go.Maps
/-- The cells, one's name aside. -/
def setNm (L : List CR) (i : Nat) (s : ByteArray) : List CR := L.modify i fun c => { c with nm := s }
theorem setNm_len (L : List CR) (i : Nat) (s : ByteArray) : (setNm L i s).length = L.length := by simp [setNm]
theorem setNm_zero (L : List CR) (s : ByteArray) : setNm L 0 s = ren s L := by cases L <;> rfl
theorem rw5_set : ∀ (L : List CR) (i : Nat) (s : ByteArray), i < L.length → (rw5 L).set (i * 5 + 1) (.string s) = rw5 (setNm L i s)
  | [], i, s, h => by simp at h
  | c :: L, 0, s, h => by
    unfold setNm
    rw [rw5_cons]
    rfl
  | c :: L, i + 1, s, h => by
    have ih := rw5_set L i s (by simpa using h)
    have e : setNm (c :: L) (i + 1) s = c :: setNm L i s := rfl
    rw [e, rw5_cons, rw5_cons, ← ih, show (i + 1) * 5 + 1 = (i * 5 + 1) + 5 by omega]
    rfl
theorem own_set {w : World} {B q n cap i : Nat} {L : List CR} (h : w.ownsRow B 46 5 (.slice (some ⟨q, 0, none⟩) n cap) n (rw5 L)) (hl : L.length = n) (hi : i < n) (s : ByteArray) :
    (w.setCell ⟨q, i * 5 + 1, none⟩ (.string s)).ownsRow B 46 5 (.slice (some ⟨q, 0, none⟩) n cap) n (rw5 (setNm L i s)) := by
  refine ⟨by rw [rw5_len, setNm_len, hl], ?_⟩
  rcases h.2 with ⟨h', _⟩ | ⟨g', cap', cur, h', hb, hg, h1, h2, h3, h4⟩
  · simp at h'
  · simp only [Value.slice.injEq, Option.some.injEq, Addr.mk.injEq, and_true, true_and] at h'
    obtain ⟨rfl, rfl⟩ := h'
    refine .inr ⟨q, cap, cur.setIfInBounds (i * 5 + 1) (.string s), rfl, hb, ?_, h1, h2, by simpa using h3, ?_⟩
    · simp [World.setCell, Array.getElem?_modify, hg]
    · rw [Array.toList_setIfInBounds, List.take_set, h4]
      exact rw5_set L i s (by omega)
theorem own_cellq {w : World} {B q n cap i : Nat} {L : List CR} (h : w.ownsRow B 46 5 (.slice (some ⟨q, 0, none⟩) n cap) n (rw5 L)) (hi : i < n) (hl : L.length = n) : w.cell? ⟨q, i * 5 + 1, none⟩ = some (.string (gl L i).nm) ∧ w.frozen? ⟨q, i * 5 + 1, none⟩ = false := by
  refine ⟨?_, ?_⟩
  · rw [h.cellAt _ (by omega)]
    exact (rw5_at L i (by omega)).2.1
  · rcases h.2 with ⟨h', _⟩ | ⟨g', cap', cur, h', hb, hg, h1, h2, h3, h4⟩
    · simp at h'
    · simp only [Value.slice.injEq, Option.some.injEq, Addr.mk.injEq, and_true, true_and] at h'
      obtain ⟨rfl, rfl⟩ := h'
      simp [World.frozen?, hg]
theorem own_addr {w : World} {B n : Nat} {v : Value} {xs : List Value} {e : TypeId} {sz : Nat} (h : w.ownsRow B e sz v n xs) (h0 : 0 < n) : ∃ q cap, v = .slice (some ⟨q, 0, none⟩) n cap ∧ B ≤ q ∧ q < w.heap.size := by
  rcases h.2 with ⟨_, hn⟩ | ⟨q, cap, cur, rfl, hb, hg, _⟩
  · omega
  · exact ⟨q, cap, rfl, hb, (Array.getElem?_eq_some_iff.1 hg).1⟩
theorem CV.part {w : World} {b off n : Nat} {g : Nat → CR} (h : CV w (some ⟨b, off, none⟩) n g) (p e : Nat) (he : e ≤ n) : CV w (some ⟨b, off + p * 5, none⟩) (e - p) (fun i => g (p + i)) := fun i hi => by
  obtain ⟨h0, c0, c1, c2, c3, c4⟩ := h.at_ (i := p + i) (by omega)
  rw [show off + (p + i) * 5 = off + p * 5 + i * 5 by omega] at c0 c1 c2 c3 c4
  exact ⟨b, off + p * 5, rfl, h0, c0, c1, c2, c3, c4⟩
theorem cut_part (g : Nat → CR) (p e : Nat) : cut (fun i => g (p + i)) 0 (e - p) = cut g p e := by
  unfold cut
  simp
end Go.Proofs.YtmkkckhfdafjnaaGreatDoor
/- Layer 3: gather. -/
namespace Go.Proofs.YtmkkckhfdafjnaaGreatDoor
open Go.RowKit Go.Maps
/-- Values that came in. -/
structure LIn (w : World) (la : Option Addr) (ln : Nat) (ad : Nat → Option Addr) (len cp : Nat → Nat) (G : Nat → Nat → CR) : Prop where
  at_ : ∀ i, i < ln → ∃ b off, la = some ⟨b, off, none⟩ ∧ b < w.heap.size ∧ w.cell? ⟨b, off + i, none⟩ = some (.slice (ad i) (len i) (cp i))
  cv : ∀ i, i < ln → CV w (ad i) (len i) (G i)
theorem LIn.below {w w' : World} {la : Option Addr} {ln : Nat} {ad : Nat → Option Addr} {len cp : Nat → Nat} {G : Nat → Nat → CR} (h : LIn w la ln ad len cp G) (hb : Below w.heap.size w w') : LIn w' la ln ad len cp G :=
  ⟨fun i hi => by
    obtain ⟨b, off, e, h1, h2⟩ := h.at_ i hi
    exact ⟨b, off, e, Nat.lt_of_lt_of_le h1 hb.size, (hb.cell (p := ⟨b, _, none⟩) h1).trans h2⟩, fun i hi => (h.cv i hi).below hb⟩
/-- Names that came in. -/
def NV (w : World) (a : Option Addr) (n : Nat) (s : Nat → ByteArray) : Prop := ∀ i, i < n → ∃ b off, a = some ⟨b, off, none⟩ ∧ b < w.heap.size ∧ w.cell? ⟨b, off + i, none⟩ = some (.string (s i))
theorem NV.below {w w' : World} {a : Option Addr} {n : Nat} {s : Nat → ByteArray} (h : NV w a n s) (hb : Below w.heap.size w w') : NV w' a n s := fun i hi => by
  obtain ⟨b, off, e, h1, h2⟩ := h i hi
  exact ⟨b, off, e, Nat.lt_of_lt_of_le h1 hb.size, (hb.cell (p := ⟨b, _, none⟩) h1).trans h2⟩
/-- The i-th value, under its name. -/
def lsF (k : Nat) (s : Nat → ByteArray) (len : Nat → Nat) (G : Nat → Nat → CR) (i : Nat) : List CR := if k = 7 then ren (s i) (cut (G i) 0 (len i)) else cut (G i) 0 (len i)
def hdC (k ln : Nat) : CR := ⟨k, ⟨#[]⟩, ⟨#[]⟩, 0, ln⟩
def preL (k ln : Nat) (s : Nat → ByteArray) (len : Nat → Nat) (G : Nat → Nat → CR) (i : Nat) : List CR := hdC k ln :: ((List.range i).map (lsF k s len G)).flatten
theorem pre_succ (k ln : Nat) (s : Nat → ByteArray) (len : Nat → Nat) (G : Nat → Nat → CR) (i : Nat) : preL k ln s len G (i + 1) = preL k ln s len G i ++ lsF k s len G i := by
  unfold preL
  rw [List.range_succ, List.map_append, List.flatten_append]
  simp
theorem ls_len (k : Nat) (s : Nat → ByteArray) (len : Nat → Nat) (G : Nat → Nat → CR) (i : Nat) : (lsF k s len G i).length = len i := by
  unfold lsF
  split
  · rw [ren_len, cut_len, Nat.sub_zero]
  · rw [cut_len, Nat.sub_zero]
theorem set_app (L M : List CR) (s : ByteArray) : setNm (L ++ M) L.length s = L ++ ren s M := by
  induction L with
  | nil => cases M <;> rfl
  | cons x L ih =>
    show x :: setNm (L ++ M) L.length s = x :: (L ++ ren s M)
    rw [ih]
/-- The error of gather. -/
def gE (k ln : Nat) (s : Nat → ByteArray) (len : Nat → Nat) (G : Nat → Nat → CR) : Int :=
  if 2048 < ln then 4 else if (List.range ln).all (fun i => ckC (G i) (len i)) then eC (ckL (preL k ln s len G ln)) else 8
def GP (w : World) (e : Int) (L : List CR) (r : Ending) (w' : World) : Prop :=
  ∃ v, r = .returned (.tuple #[v, .int .i64 e]) ∧ (e ≠ 0 → v = .slice none 0 0) ∧ (e = 0 → w'.ownsRow w.heap.size 46 5 v L.length (rw5 L)) ∧ Below w.heap.size w w'
theorem GP.bad {w w' : World} {e z : Int} {L : List CR} (he : e = z) (hz : z ≠ 0) (hb : Below w.heap.size w w') : GP w e L (.returned (.tuple #[.slice none 0 0, .int .i64 z])) w' := by
  subst he; exact ⟨_, rfl, fun _ => rfl, fun h => absurd h hz, hb⟩
theorem GP.ok {w w' : World} {e : Int} {L : List CR} {v : Value} (he : e = 0) (ho : w'.ownsRow w.heap.size 46 5 v L.length (rw5 L)) (hb : Below w.heap.size w w') : GP w e L (.returned (.tuple #[v, .int .i64 0])) w' := by
  subst he; exact ⟨_, rfl, fun h => absurd rfl h, fun _ => ho, hb⟩
end Go.Proofs.YtmkkckhfdafjnaaGreatDoor
/- Layer 3: what is put together of values, taken apart again (plain); Items, Members. -/
namespace Go.Proofs.YtmkkckhfdafjnaaGreatDoor
open Go.RowKit Go.Maps
theorem ck_cut {g : Nat → CR} {n : Nat} (h : ckC g n = true) : ckL (cut g 0 n) = true := by
  obtain ⟨k1, k2, k3, k4⟩ := ckC_parts h
  have hl : (cut g 0 n).length = n := by rw [cut_len, Nat.sub_zero]
  have hat : ∀ t, t < n → gl (cut g 0 n) t = g t := fun t ht => by rw [cut_at g 0 n t (by omega), Nat.zero_add]
  unfold ckL
  rw [hl]
  refine ckC_mk k1 k2 (by rw [hat 0 k1]; exact k3) ?_
  have k := wk_shift (g1 := g) (n1 := n) (s1 := 0) (g2 := gl (cut g 0 n)) (n2 := n) (s2 := 0) 16 0 n (by simpa using k4) ?_ (by omega)
  · simpa using k
  · intro t _ ht
    rw [Nat.add_zero, hat t ht]
    exact ⟨rfl, rfl, rfl, rfl, fun _ => rfl⟩
/-- The values' lists; the same under their names. -/
def vsL (ln : Nat) (len : Nat → Nat) (G : Nat → Nat → CR) : List (List CR) := (List.range ln).map fun i => cut (G i) 0 (len i)
def lsL (k ln : Nat) (s : Nat → ByteArray) (len : Nat → Nat) (G : Nat → Nat → CR) : List (List CR) := (List.range ln).map (lsF k s len G)
theorem pre_under (k ln : Nat) (s : Nat → ByteArray) (len : Nat → Nat) (G : Nat → Nat → CR) : preL k ln s len G ln = under (hdC k ln) (lsL k ln s len G) := rfl
theorem vs_len (ln : Nat) (len : Nat → Nat) (G : Nat → Nat → CR) : (vsL ln len G).length = ln := by simp [vsL]
theorem ls_len2 (k ln : Nat) (s : Nat → ByteArray) (len : Nat → Nat) (G : Nat → Nat → CR) : (lsL k ln s len G).length = ln := by simp [lsL]
theorem vs_at (ln : Nat) (len : Nat → Nat) (G : Nat → Nat → CR) (i : Nat) (h : i < (vsL ln len G).length) : (vsL ln len G)[i] = cut (G i) 0 (len i) := by simp [vsL]
theorem ls_at (k ln : Nat) (s : Nat → ByteArray) (len : Nat → Nat) (G : Nat → Nat → CR) (i : Nat) (h : i < (lsL k ln s len G).length) : (lsL k ln s len G)[i] = lsF k s len G i := by simp [lsL]
/-- Where the i-th begins, in what was put together. -/
def plF (k ln : Nat) (s : Nat → ByteArray) (len : Nat → Nat) (G : Nat → Nat → CR) (i : Nat) : Nat := bd (gl (preL k ln s len G ln)) (preL k ln s len G ln).length (0 + 1) i
theorem put_facts (k : Nat) (hk : k = 6 ∨ k = 7) (ln : Nat) (s : Nat → ByteArray) (len : Nat → Nat) (G : Nat → Nat → CR) (hck : ∀ i, i < ln → ckC (G i) (len i) = true) (hL : ckL (preL k ln s len G ln) = true) :
    (gl (preL k ln s len G ln) 0).m.toNat = ln ∧ (gl (preL k ln s len G ln) 0).k = k ∧ ∀ i, i < ln → plF k ln s len G i < (preL k ln s len G ln).length ∧ ren ⟨#[]⟩ (cut (gl (preL k ln s len G ln)) (plF k ln s len G i) (nx (gl (preL k ln s len G ln)) (preL k ln s len G ln).length (plF k ln s len G i))) = cut (G i) 0 (len i) ∧ nx (gl (preL k ln s len G ln)) (preL k ln s len G ln).length (plF k ln s len G i) - plF k ln s len G i = len i ∧ (k = 7 → memP (gl (preL k ln s len G ln)) (preL k ln s len G ln).length 0 (s i) = some (plF k ln s len G i)) := by
  have hm : (gl (preL k ln s len G ln) 0).m.toNat = ln := by
    show ((ln : Int)).toNat = ln
    exact Int.toNat_natCast _
  have hk0 : (gl (preL k ln s len G ln) 0).k = k := rfl
  refine ⟨hm, hk0, ?_⟩
  have hvs : ∀ i (h2 : i < (vsL ln len G).length), ckL (vsL ln len G)[i] = true := fun i h2 => by
    rw [vs_at]
    exact ck_cut (hck i (by rw [vs_len] at h2; exact h2))
  have hl : (lsL k ln s len G).length = (vsL ln len G).length := by rw [ls_len2, vs_len]
  have hr : ∀ i (h1 : i < (lsL k ln s len G).length) (h2 : i < (vsL ln len G).length), ∃ t, (lsL k ln s len G)[i] = ren t (vsL ln len G)[i] := fun i h1 h2 => by
    rw [ls_at, vs_at]
    unfold lsF
    rcases hk with e | e
    · rw [if_neg (by omega)]
      refine ⟨⟨#[]⟩, (ren_self ?_).symm⟩
      have := hvs i h2
      rw [vs_at] at this
      exact em_eq (ckC_parts this).2.2.1
    · rw [if_pos e]
      exact ⟨s i, rfl⟩
  have e1 : ∀ i, i ≤ ln → plF k ln s len G i = st 1 (lsL k ln s len G) i := fun i hi => by
    unfold plF
    rw [pre_under]
    exact under_bd (hdC k ln) (vsL ln len G) (lsL k ln s len G) hl hr hvs i (by rw [ls_len2]; exact hi)
  have w1 := under_wk (hdC k ln) (vsL ln len G) (lsL k ln s len G) hl hr hvs
  rw [← pre_under] at w1
  intro i hi
  have hi2 : i < (lsL k ln s len G).length := by rw [ls_len2]; exact hi
  have hi3 : i < (vsL ln len G).length := by rw [vs_len]; exact hi
  have hw := w1 i hi2
  have hlt := wk_lt _ _ _ hw
  have hn : nx (gl (preL k ln s len G ln)) (preL k ln s len G ln).length (plF k ln s len G i) = st 1 (lsL k ln s len G) (i + 1) := e1 (i + 1) (by omega)
  have hsub := under_sub (hdC k ln) (vsL ln len G) (lsL k ln s len G) hl hr hvs i hi2 hi3
  rw [← pre_under, vs_at] at hsub
  rw [hn, e1 i (by omega)]
  refine ⟨by omega, hsub, ?_, ?_⟩
  · have := congrArg List.length hsub
    rw [ren_len, cut_len, cut_len] at this
    omega
  · intro h7
    obtain ⟨c1, c2, c3, c4⟩ := ckC_parts hL
    unfold memP
    have hp0 : plE (gl (preL k ln s len G ln)) (preL k ln s len G ln).length 0 = 0 := by
      unfold plE
      have hL' : ckC (gl (preL k ln s len G ln)) (preL k ln s len G ln).length = true := hL
      rw [if_pos hL', if_pos (by omega)]
    rw [if_pos ⟨hp0, by show k = 7; exact h7⟩]
    show mbF _ _ (plF k ln s len G) (gl (preL k ln s len G ln) 0).m.toNat = _
    have nmAt : ∀ j, j < ln → (gl (preL k ln s len G ln) (plF k ln s len G j)).nm = s j := fun j hj => by
      have hj2 : j < (lsL k ln s len G).length := by rw [ls_len2]; exact hj
      have hj3 : j < (vsL ln len G).length := by rw [vs_len]; exact hj
      have hw' := wk_lt _ _ _ (w1 j hj2)
      have hpos := (ckC_parts (hvs j hj3)).1
      rw [vs_at, cut_len, Nat.sub_zero] at hpos
      rw [e1 j (by omega), pre_under]
      have u := under_at (hdC k ln) (lsL k ln s len G) j 0 hj2 (by rw [ls_at, ls_len]; exact hpos)
      rw [Nat.add_zero] at u
      rw [u, ls_at]
      unfold lsF
      rw [if_pos h7]
      exact ren_nm _ _ (by rw [cut_len, Nat.sub_zero]; exact hpos)
    have hap := names_apart (Nat.le_refl 16) c4 (by show k = 7; exact h7) i (by rw [hm]; exact hi)
    rw [hm, mbF_some (i := i) hi (fun j hj => ?_) (nmAt i hi)]
    · rw [← e1 i (by omega)]
    · have := hap.2 j hj
      intro hh
      exact this (hh.trans (nmAt i hi).symm)
theorem gE_ok {k ln : Nat} {s : Nat → ByteArray} {len : Nat → Nat} {G : Nat → Nat → CR} (h : gE k ln s len G = 0) : ln ≤ 2048 ∧ (∀ i, i < ln → ckC (G i) (len i) = true) ∧ ckL (preL k ln s len G ln) = true := by
  unfold gE at h
  split at h
  · cases h
  · rename_i h1
    split at h
    · rename_i h2
      refine ⟨by omega, fun i hi => List.all_eq_true.1 h2 i (List.mem_range.2 hi), ?_⟩
      cases hc : ckL (preL k ln s len G ln) with
      | true => rfl
      | false => rw [hc] at h; cases h
    · cases h
theorem own_cvc {w : World} {B n : Nat} {v : Value} {L : List CR} (hl : L.length = n) (h : w.ownsRow B 46 5 v n (rw5 L)) (h0 : 0 < n) : ∃ q cap, v = .slice (some ⟨q, 0, none⟩) n cap ∧ n ≤ cap ∧ CV w (some ⟨q, 0, none⟩) n (gl L) ∧ B ≤ q ∧ q < w.heap.size := by
  rcases h.2 with ⟨rfl, hn⟩ | ⟨q, cap, cur, rfl, hg, hgg, h1, h2, h3, h4⟩
  · omega
  · exact ⟨q, cap, rfl, h1, cv_of hl (Array.getElem?_eq_some_iff.1 hgg).1 (fun j hj => h.cellAt j hj), hg, (Array.getElem?_eq_some_iff.1 hgg).1⟩
/-- The error of Members. -/
def mE (nn ln : Nat) (s : Nat → ByteArray) (len : Nat → Nat) (G : Nat → Nat → CR) : Int := if nn = ln then gE 7 ln s len G else 2
end Go.Proofs.YtmkkckhfdafjnaaGreatDoor
/- Layer 3: a value's parts put together again (plain); rows of lists and of names that were built. -/
namespace Go.Proofs.YtmkkckhfdafjnaaGreatDoor
open Go.RowKit Go.Maps
/-- The items of a list have no names. -/
theorem items_bare {g : Nat → CR} {n r a e : Nat} (hr : r ≤ 16) (h : wk g n r a = some e) (hk : (g a).k = 6) : ∀ i, i < (g a).m.toNat → em (g (bd g n (a + 1) i)).nm = true := by
  have hc := (wk_open hr h).2.2.2
  have hb := (bd_chain _ _ _ hc).1
  cases r with
  | zero =>
    rw [wk_z] at h
    have : headP (g a) = true := by simp [headP, hk]
    rw [this] at h
    simp at h
  | succ r =>
    rw [wk_s] at h
    split at h
    · cases h
    · split at h
      · rw [if_pos (by simp [headP, hk]), hk] at h
        intro i hi
        have K : ∀ (m : Nat) (names : List ByteArray) (b : Nat → Nat), kidsF (wk g n r) g n false m names (b 0) = some e → (∀ i, i < m → wk g n 16 (b i) = some (b (i + 1))) → ∀ i, i < m → em (g (b i)).nm = true := by
          intro m
          induction m with
          | zero => intro _ _ _ _ i hi; omega
          | succ m ih =>
            intro names b hk hb i hi
            rw [kidsF] at hk
            split at hk
            · cases hk
            · split at hk
              · rename_i hnm
                cases hx : wk g n r (b 0) with
                | none => rw [hx] at hk; cases hk
                | some a' =>
                  rw [hx] at hk
                  have e1 := wk_up (r' := 16) (by omega) hx
                  rw [hb 0 (by omega)] at e1
                  simp only [Option.some.injEq] at e1
                  cases i with
                  | zero => simpa [namedP] using hnm
                  | succ i =>
                    rw [← e1] at hk
                    exact ih _ (fun t => b (t + 1)) hk (fun t ht => hb (t + 1) (by omega)) i (by omega)
              · cases hk
        exact K _ _ (bd g n (a + 1)) h hb i hi
      · cases h
def paF (g : Nat → CR) (n q i : Nat) : Nat := bd g n (q + 1) i
def paLen (g : Nat → CR) (n q i : Nat) : Nat := paF g n q (i + 1) - paF g n q i
def paG (g : Nat → CR) (n q i : Nat) : Nat → CR := gl (ren ⟨#[]⟩ (cut g (paF g n q i) (paF g n q (i + 1))))
def paS (g : Nat → CR) (n q i : Nat) : ByteArray := (g (paF g n q i)).nm
theorem cut_gl (L : List CR) (n : Nat) (h : L.length = n) : cut (gl L) 0 n = L := by
  refine gl_ext (by rw [cut_len]; omega) fun t ht => ?_
  rw [cut_len] at ht
  rw [cut_at _ _ _ _ (by omega), Nat.zero_add]
theorem cw_part {g : Nat → CR} {n a b : Nat} (h : CW n g) (hb : b ≤ n) : CW (b - a) (gl (ren ⟨#[]⟩ (cut g a b))) := by
  refine cw_small (by rw [ren_len, cut_len]) fun c hc => ?_
  have key : ∀ c, c ∈ cut g a b → c.k < 256 ∧ c.nm.size ≤ maxLen ∧ c.tx.size ≤ 1000000 ∧ -9223372036854775808 ≤ c.m ∧ c.m ≤ 9223372036854775807 := fun c hc => by
    unfold cut at hc
    obtain ⟨t, ht, rfl⟩ := List.mem_map.1 hc
    have ht' := List.mem_range.1 ht
    exact h (a + t) (by omega)
  cases hcl : cut g a b with
  | nil => rw [hcl] at hc; simp [ren] at hc
  | cons x r =>
    rw [hcl] at hc key
    rcases List.mem_cons.1 hc with rfl | hc
    · have := key x (by simp)
      exact ⟨this.1, by show (0 : Nat) ≤ maxLen; omega, this.2.2⟩
    · exact key c (by simp [hc])
theorem parts_facts {g : Nat → CR} {n q : Nat} (hc : ckC g n = true) (hq : q < n) :
    (∀ i, i < (g q).m.toNat → paF g n q i < n ∧ nx g n (paF g n q i) = paF g n q (i + 1) ∧ paF g n q i < paF g n q (i + 1) ∧ paF g n q (i + 1) ≤ n) ∧ paF g n q 0 = q + 1 ∧ paF g n q (g q).m.toNat = nx g n q ∧ (g q).m.toNat ≤ 2048 ∧ q < nx g n q ∧ nx g n q ≤ n ∧ ckL (ren ⟨#[]⟩ (cut g q (nx g n q))) = true ∧
    (∀ s, (g q).k = 6 → gE 6 (g q).m.toNat s (paLen g n q) (paG g n q) = 0 ∧ preL 6 (g q).m.toNat s (paLen g n q) (paG g n q) (g q).m.toNat = ren ⟨#[]⟩ (cut g q (nx g n q))) ∧
    ((g q).k = 7 → gE 7 (g q).m.toNat (paS g n q) (paLen g n q) (paG g n q) = 0 ∧ preL 7 (g q).m.toNat (paS g n q) (paLen g n q) (paG g n q) (g q).m.toNat = ren ⟨#[]⟩ (cut g q (nx g n q))) ∧
    ((g q).k ≠ 6 → (g q).k ≠ 7 → (g q).m.toNat = 0 ∧ nx g n q = q + 1) := by
  have hn := (ckC_parts hc).2.1
  obtain ⟨hw, hle⟩ := ck_at hc hq
  obtain ⟨o1, o2, o3, o4⟩ := wk_open (Nat.le_refl _) hw
  obtain ⟨b1, b2⟩ := bd_chain _ _ _ o4
  have hlt := wk_lt _ _ _ hw
  have hcl := Chain.le _ _ _ o4
  obtain ⟨m, hm⟩ : ∃ m, m = (g q).m.toNat := ⟨_, rfl⟩
  rw [← hm] at b1 b2 hcl ⊢
  have hS := sub_ck hw hn
  have hck : ∀ i, i < m → ckC (paG g n q i) (paLen g n q i) = true := fun i hi => by
    have := sub_ck (b1 i hi) hn
    unfold ckL at this
    rw [ren_len, cut_len] at this
    exact this
  have hcut : ∀ i, cut (paG g n q i) 0 (paLen g n q i) = ren ⟨#[]⟩ (cut g (paF g n q i) (paF g n q (i + 1))) := fun i => cut_gl _ _ (by rw [ren_len, cut_len]; rfl)
  have hU := parts_under hw ((List.range m).map fun i => cut g (bd g n (q + 1) i) (bd g n (q + 1) (i + 1))) (by simp [hm]) (fun i h1 => by simp)
  have hgen : ∀ (k : Nat) (s : Nat → ByteArray), (k = 6 ∨ k = 7) → (g q).k = k → (∀ i, i < m → lsF k s (paLen g n q) (paG g n q) i = cut g (paF g n q i) (paF g n q (i + 1))) →
      gE k m s (paLen g n q) (paG g n q) = 0 ∧ preL k m s (paLen g n q) (paG g n q) m = ren ⟨#[]⟩ (cut g q (nx g n q)) := fun k s hk hk2 hls => by
    have hp : preL k m s (paLen g n q) (paG g n q) m = ren ⟨#[]⟩ (cut g q (nx g n q)) := by
      rw [← hU]
      unfold preL under ren
      obtain ⟨h1, h2, h3, h4⟩ := one_head o2 (by unfold headP; rw [hk2]; rcases hk with e | e <;> simp [e])
      have e1 : hdC k m = { g q with nm := ⟨#[]⟩ } := by
        unfold hdC
        have := em_eq h2
        have hm' : ((m : Nat) : Int) = (g q).m := by omega
        rw [hm', ← hk2, ← this, ← h1]
      rw [e1]
      congr 2
      exact List.map_congr_left fun i hi => hls i (List.mem_range.1 hi)
    refine ⟨?_, hp⟩
    unfold gE
    rw [if_neg (by omega), if_pos (List.all_eq_true.2 fun i hi => hck i (List.mem_range.1 hi)), hp, hS]
    rfl
  have hpos : ∀ i, i < m → (cut g (paF g n q i) (paF g n q (i + 1))).length ≠ 0 ∧ (gl (cut g (paF g n q i) (paF g n q (i + 1))) 0) = g (paF g n q i) := fun i hi => by
    have := wk_lt _ _ _ (b1 i hi)
    have h2 : paF g n q i < paF g n q (i + 1) := this.1
    refine ⟨by rw [cut_len]; omega, ?_⟩
    rw [cut_at _ _ _ _ (by omega), Nat.add_zero]
  refine ⟨fun i hi => ⟨?_, rfl, ?_, ?_⟩, rfl, b2, by omega, hlt.1, hle, hS, fun s h6 => ?_, fun h7 => ?_, fun h6 h7 => ?_⟩
  · have := wk_lt _ _ _ (b1 i hi)
    show bd g n (q + 1) i < n
    omega
  · exact (wk_lt _ _ _ (b1 i hi)).1
  · exact (wk_lt _ _ _ (b1 i hi)).2
  · refine hgen 6 s (.inl rfl) h6 fun i hi => ?_
    unfold lsF
    rw [if_neg (by decide), hcut]
    refine ren_self ?_
    rw [(hpos i hi).2]
    exact em_eq (items_bare (Nat.le_refl 16) hw h6 i (by rw [← hm]; exact hi))
  · refine hgen 7 (paS g n q) (.inr rfl) h7 fun i hi => ?_
    unfold lsF
    rw [if_pos rfl, hcut, ren_ren]
    refine ren_self ?_
    rw [(hpos i hi).2]
    rfl
  · have := one_leaf o2 (by unfold headP; simp [h6, h7])
    have hm0 : m = 0 := by rw [hm, this]; rfl
    rw [hm0] at b2
    exact ⟨hm0, b2.symm⟩
/-- Rows of different kinds lie apart. -/
theorem own_apart {w : World} {B1 B2 s1 s2 n1 n2 : Nat} {e1 e2 : TypeId} {v1 v2 : Value} {x1 x2 : List Value} (h1 : w.ownsRow B1 e1 s1 v1 n1 x1) (h2 : w.ownsRow B2 e2 s2 v2 n2 x2) (he : e1 ≠ e2) : v1.ownBlock = none ∨ v1.ownBlock ≠ v2.ownBlock := by
  rcases h1.2 with ⟨rfl, _⟩ | ⟨q, cap, cur, rfl, _, hg, _⟩
  · exact .inl rfl
  · rcases h2.2 with ⟨rfl, _⟩ | ⟨q', cap', cur', rfl, _, hg', _⟩
    · exact .inr (by simp [Value.ownBlock])
    · refine .inr fun e => ?_
      simp only [Value.ownBlock, Option.some.injEq] at e
      rw [← e, hg] at hg'
      simp only [Option.some.injEq, Obj.cells.injEq] at hg'
      exact he hg'.2.1
theorem own_base {w : World} {B B' s n : Nat} {e : TypeId} {v : Value} {x : List Value} (h : w.ownsRow B e s v n x) (hb : B' ≤ B) : w.ownsRow B' e s v n x := by
  refine ⟨h.1, ?_⟩
  rcases h.2 with h | ⟨g', cap', cur, h', hb', rest⟩
  · exact .inl h
  · exact .inr ⟨g', cap', cur, h', Nat.le_trans hb hb', rest⟩
theorem own_below {w w' : World} {B s n : Nat} {e : TypeId} {v : Value} {x : List Value} (h : w.ownsRow B e s v n x) (b : Below w.heap.size w w') : w'.ownsRow B e s v n x :=
  h.kept (row := none) ⟨b.os, b.tape, b.output, b.size, fun k hk _ => b.block k hk⟩ (Classical.em _)
/-- A row of lists that was built. -/
def slL (ad : Nat → Option Addr) (len cp : Nat → Nat) (m : Nat) : List Value := (List.range m).map fun j => .slice (ad j) (len j) (cp j)
theorem slL_succ (ad : Nat → Option Addr) (len cp : Nat → Nat) (m : Nat) : slL ad len cp (m + 1) = slL ad len cp m ++ [.slice (ad m) (len m) (cp m)] := by unfold slL; rw [List.range_succ, List.map_append]; rfl
theorem slL_len (ad : Nat → Option Addr) (len cp : Nat → Nat) (m : Nat) : (slL ad len cp m).length = m := by simp [slL]
theorem slL_upd (ad : Nat → Option Addr) (len cp : Nat → Nat) (m : Nat) (a : Option Addr) (c : Nat) : slL (fun j => if j = m then a else ad j) len (fun j => if j = m then c else cp j) (m + 1) = slL ad len cp m ++ [.slice a (len m) c] := by
  rw [slL_succ, if_pos rfl, if_pos rfl]
  congr 1
  unfold slL
  refine List.map_congr_left fun j hj => ?_
  have := List.mem_range.1 hj
  show Value.slice (if j = m then a else ad j) (len j) (if j = m then c else cp j) = _
  rw [if_neg (by omega), if_neg (by omega)]
def stL (s : Nat → ByteArray) (m : Nat) : List Value := (List.range m).map fun j => .string (s j)
theorem stL_succ (s : Nat → ByteArray) (m : Nat) : stL s (m + 1) = stL s m ++ [.string (s m)] := by unfold stL; rw [List.range_succ, List.map_append]; rfl
theorem own_lin {w : World} {B m : Nat} {v : Value} {ad : Nat → Option Addr} {len cp : Nat → Nat} (h : w.ownsRow B 37 1 v m (slL ad len cp m)) : ∃ la lc, v = .slice la m lc ∧ ∀ i, i < m → ∃ b off, la = some ⟨b, off, none⟩ ∧ b < w.heap.size ∧ w.cell? ⟨b, off + i, none⟩ = some (.slice (ad i) (len i) (cp i)) := by
  rcases h.2 with ⟨rfl, hn⟩ | ⟨q, cap, cur, rfl, hg, hgg, h1, h2, h3, h4⟩
  · subst hn
    exact ⟨none, 0, rfl, fun i hi => by omega⟩
  · refine ⟨some ⟨q, 0, none⟩, cap, rfl, fun k hk => ⟨q, 0, rfl, (Array.getElem?_eq_some_iff.1 hgg).1, ?_⟩⟩
    rw [Nat.zero_add, h.cellAt k (by omega)]
    unfold slL
    rw [List.getElem?_map, List.getElem?_range hk]
    rfl
theorem own_nv {w : World} {B m : Nat} {v : Value} {s : Nat → ByteArray} (h : w.ownsRow B 9 1 v m (stL s m)) : ∃ na nc, v = .slice na m nc ∧ NV w na m s := by
  rcases h.2 with ⟨rfl, hn⟩ | ⟨q, cap, cur, rfl, hg, hgg, h1, h2, h3, h4⟩
  · subst hn
    exact ⟨none, 0, rfl, fun i hi => by omega⟩
  · refine ⟨some ⟨q, 0, none⟩, cap, rfl, fun k hk => ⟨q, 0, rfl, (Array.getElem?_eq_some_iff.1 hgg).1, ?_⟩⟩
    rw [Nat.zero_add, h.cellAt k (by omega)]
    unfold stL
    rw [List.getElem?_map, List.getElem?_range hk]
    rfl
theorem infoSl : ∃ i, Tryz.prog.info? 37 = some i ∧ i.zero = some (.slice none 0 0) ∧ i.size = 1 ∧ i.bytes = 24 := by
  have h := Tryz.typeInfo37 default
  unfold typeInfo at h
  cases hq : Tryz.prog.info? 37 with
  | none => simp [hq] at h
  | some i =>
    simp [hq] at h
    exact ⟨i, rfl, by rw [h]; rfl, by rw [h]; rfl, by rw [h]; rfl⟩
theorem infoStr : ∃ i, Tryz.prog.info? 9 = some i ∧ i.zero = some (.string ⟨#[]⟩) ∧ i.size = 1 ∧ i.bytes = 16 := by
  have h := Tryz.typeInfo9 default
  unfold typeInfo at h
  cases hq : Tryz.prog.info? 9 with
  | none => simp [hq] at h
  | some i =>
    simp [hq] at h
    exact ⟨i, rfl, by rw [h]; rfl, by rw [h]; rfl, by rw [h]; rfl⟩
end Go.Proofs.YtmkkckhfdafjnaaGreatDoor
/- Plain facts of texts: the document's search for a code point (as in layer 1). -/
namespace Go.Proofs.YtmkkckhfdafjnaaGreatDoor
open Go.RowKit
/-- Next, as numbers. -/
def nxE (s : ByteArray) (i : Int) : Int := if 0 ≤ i ∧ i < s.size then (if decIs s i.toNat then 0 else 10) else 2
def nxP (s : ByteArray) (i : Int) : Int := if 0 ≤ i ∧ i < s.size then decP s i.toNat else 0
def nxN (s : ByteArray) (i : Int) : Int := if 0 ≤ i ∧ i < s.size then decN s i.toNat else 0
theorem lead_cases (b : Int) (h0 : leadN b ≠ 0) : leadN b = 1 ∧ leadB b = b ∧ b < 128 ∨ leadN b = 2 ∧ leadB b = b % 32 ∧ 192 ≤ b ∧ b < 224 ∨ leadN b = 3 ∧ leadB b = b % 16 ∧ 224 ≤ b ∧ b < 240 ∨ leadN b = 4 ∧ leadB b = b % 8 ∧ 240 ≤ b ∧ b < 248 := by
  unfold leadN leadB at *
  by_cases h1 : b < 128
  · simp [h1]
  by_cases h2 : b < 192
  · simp [h1, h2] at h0
  by_cases h3 : b < 224
  · simp [h1, h2, h3]; omega
  by_cases h4 : b < 240
  · simp [h1, h2, h3, h4]; omega
  by_cases h5 : b < 248
  · simp [h1, h2, h3, h4, h5]; omega
  · simp [h1, h2, h3, h4, h5] at h0
theorem szOf_lo {p : Int} : (szOf p = 2 → 128 ≤ p) ∧ (szOf p = 3 → 2048 ≤ p) ∧ (szOf p = 4 → 65536 ≤ p) := by
  unfold szOf
  refine ⟨fun h => ?_, fun h => ?_, fun h => ?_⟩
  all_goals (split at h <;> first | omega | (split at h <;> first | omega | (split at h <;> omega)))
/-- The bytes of a code point. -/
def enc (p : Int) : List Int :=
  if p < 128 then [p] else if p < 2048 then [192 + p / 64, 128 + p % 64] else if p < 65536 then [224 + p / 4096, 128 + p / 64 % 64, 128 + p % 64]
  else [240 + p / 262144, 128 + p / 4096 % 64, 128 + p / 64 % 64, 128 + p % 64]
/-- Numbers as bytes. -/
def mkB (L : List Int) : ByteArray := ⟨(L.map (fun x => UInt8.ofNat x.toNat)).toArray⟩
theorem isPt_range {p : Int} (h : isPt p = true) : 0 ≤ p ∧ p < 1114112 := by
  simp only [isPt, decide_eq_true_eq] at h; omega
theorem enc_range {p : Int} (h0 : 0 ≤ p) (h1 : p < 1114112) : ∀ x ∈ enc p, 0 ≤ x ∧ x < 256 := by
  intro x hx
  unfold enc at hx
  split at hx
  · simp at hx; omega
  split at hx
  · simp at hx; omega
  split at hx
  · simp at hx; omega
  · simp at hx; omega
theorem enc_len (p : Int) : 1 ≤ (enc p).length ∧ (enc p).length ≤ 4 := by
  unfold enc; (repeat' split) <;> simp
theorem mkB_size (L : List Int) : (mkB L).size = L.length := by simp [mkB, ByteArray.size]
theorem mkB_byt (L : List Int) (i : Nat) (h : i < L.length) (hr : 0 ≤ L.getD i 0 ∧ L.getD i 0 < 256) : byt (mkB L) i = L.getD i 0 := by
  unfold byt
  rw [dif_pos (by rw [mkB_size]; exact h)]
  have e : (mkB L)[i]'(by rw [mkB_size]; exact h) = UInt8.ofNat (L.getD i 0).toNat := by
    show (mkB L).data[i]'_ = _
    simp [mkB, List.getD, h]
  rw [e, UInt8.toNat_ofNat']; omega

/-- The bytes of a code point are read as it. -/
theorem dec_enc {s : ByteArray} {a : Nat} {p : Int} (hp : isPt p = true) (hs : a + (enc p).length ≤ s.size) (hb : ∀ j, j < (enc p).length → byt s (a + j) = (enc p).getD j 0) :
    decIs s a = true ∧ decP s a = p ∧ leadN (byt s a) = (enc p).length := by
  have hr := isPt_range hp
  have key : leadN (byt s a) = (enc p).length ∧ conts s (a + 1) ((enc p).length - 1) = true ∧ acc s (a + 1) (leadB (byt s a)) ((enc p).length - 1) = p ∧ szOf p = (enc p).length := by
    by_cases c1 : p < 128
    · have e : enc p = [p] := by unfold enc; rw [if_pos c1]
      rw [e] at hb hs ⊢
      have b0 : byt s a = p := by simpa using hb 0 (by simp)
      rw [b0]
      exact ⟨by unfold leadN; rw [if_pos c1]; rfl, rfl, by unfold leadB; rw [if_pos c1]; rfl, by unfold szOf; rw [if_pos c1]; rfl⟩
    by_cases c2 : p < 2048
    · have e : enc p = [192 + p / 64, 128 + p % 64] := by unfold enc; rw [if_neg c1, if_pos c2]
      rw [e] at hb hs ⊢
      simp only [List.length_cons, List.length_nil] at hs hb ⊢
      have b0 : byt s a = 192 + p / 64 := by simpa using hb 0 (by simp)
      have b1 : byt s (a + 1) = 128 + p % 64 := by simpa using hb 1 (by simp)
      refine ⟨?_, ?_, ?_, ?_⟩
      · unfold leadN; rw [b0]; (repeat' split) <;> omega
      · simp only [conts, Nat.add_zero, b1, Bool.true_and, decide_eq_true_eq]; omega
      · simp only [acc, Nat.add_zero, b1, b0, leadB]; (repeat' split) <;> omega
      · unfold szOf; (repeat' split) <;> omega
    by_cases c3 : p < 65536
    · have e : enc p = [224 + p / 4096, 128 + p / 64 % 64, 128 + p % 64] := by unfold enc; rw [if_neg c1, if_neg c2, if_pos c3]
      rw [e] at hb hs ⊢
      simp only [List.length_cons, List.length_nil] at hs hb ⊢
      have b0 : byt s a = 224 + p / 4096 := by simpa using hb 0 (by simp)
      have b1 : byt s (a + 1) = 128 + p / 64 % 64 := by simpa using hb 1 (by simp)
      have b2 : byt s (a + 1 + 1) = 128 + p % 64 := by simpa using hb 2 (by simp)
      refine ⟨?_, ?_, ?_, ?_⟩
      · unfold leadN; rw [b0]; (repeat' split) <;> omega
      · simp only [conts, Nat.add_zero, b1, b2, Bool.true_and, Bool.and_eq_true, decide_eq_true_eq]; omega
      · simp only [acc, Nat.add_zero, b1, b2, b0, leadB]; (repeat' split) <;> omega
      · unfold szOf; (repeat' split) <;> omega
    · have e : enc p = [240 + p / 262144, 128 + p / 4096 % 64, 128 + p / 64 % 64, 128 + p % 64] := by unfold enc; rw [if_neg c1, if_neg c2, if_neg c3]
      rw [e] at hb hs ⊢
      simp only [List.length_cons, List.length_nil] at hs hb ⊢
      have b0 : byt s a = 240 + p / 262144 := by simpa using hb 0 (by simp)
      have b1 : byt s (a + 1) = 128 + p / 4096 % 64 := by simpa using hb 1 (by simp)
      have b2 : byt s (a + 1 + 1) = 128 + p / 64 % 64 := by simpa using hb 2 (by simp)
      have b3 : byt s (a + 1 + 2) = 128 + p % 64 := by simpa using hb 3 (by simp)
      refine ⟨?_, ?_, ?_, ?_⟩
      · unfold leadN; rw [b0]; (repeat' split) <;> omega
      · simp only [conts, Nat.add_zero, b1, b2, b3, Bool.true_and, Bool.and_eq_true, decide_eq_true_eq]; omega
      · simp only [acc, Nat.add_zero, b1, b2, b3, b0, leadB]; (repeat' split) <;> omega
      · unfold szOf; (repeat' split) <;> omega
  obtain ⟨k1, k2, k3, k4⟩ := key
  have hl := enc_len p
  have hd : decIs s a = true := by
    simp only [decIs, k1, k2, k3, hp, k4, Bool.and_eq_true, decide_eq_true_eq, and_true]
    omega
  exact ⟨hd, by unfold decP; rw [if_pos hd, k1, k3], k1⟩
def m0 (b : Int) (z : Nat) : Int := if z = 2 then b % 32 else if z = 3 then b % 16 else if z = 4 then b % 8 else b
def numN (s : ByteArray) (a z : Nat) : Int := acc s (a + 1) (m0 (byt s a) z) (z - 1)
def tpB (s : ByteArray) (a z : Nat) : Bool := isPt (numN s a z) && decide (mkB (enc (numN s a z)) = s.extract a (a + z))

theorem byt_ext {s t : ByteArray} (hs : s.size = t.size) (h : ∀ i, i < s.size → byt s i = byt t i) : s = t := by
  apply ByteArray.ext
  apply Array.ext
  · exact hs
  · intro i h1 h2
    have h1' : i < s.size := h1
    have h2' : i < t.size := h2
    have := h i h1'
    unfold byt at this
    rw [dif_pos h1', dif_pos h2'] at this
    have e : s[i].toNat = t[i].toNat := by omega
    exact UInt8.toNat_inj.1 e
theorem byt_extract {s : ByteArray} {a z : Nat} (h : a + z ≤ s.size) (j : Nat) (hj : j < z) : byt (s.extract a (a + z)) j = byt s (a + j) := by
  have hs : (s.extract a (a + z)).size = z := by simp; omega
  unfold byt
  rw [dif_pos (by omega), dif_pos (by omega)]
  simp [ByteArray.getElem_extract]
/-- The bytes where a code point begins are that code point's. -/
theorem enc_dec {s : ByteArray} {a : Nat} (h : decIs s a = true) : (enc (decP s a)).length = leadN (byt s a) ∧ ∀ j, j < leadN (byt s a) → byt s (a + j) = (enc (decP s a)).getD j 0 := by
  have hd := h
  have hP : decP s a = acc s (a + 1) (leadB (byt s a)) (leadN (byt s a) - 1) := by unfold decP; rw [if_pos h]
  simp only [decIs, Bool.and_eq_true, decide_eq_true_eq] at hd
  obtain ⟨⟨⟨h0, hc⟩, hp⟩, hz⟩ := hd
  rw [← hP] at hp hz
  have hr := isPt_range hp
  have hb := byt_range s a
  rcases lead_cases (byt s a) h0 with ⟨e1, e2, e3⟩ | ⟨e1, e2, e3, e4⟩ | ⟨e1, e2, e3, e4⟩ | ⟨e1, e2, e3, e4⟩
  · rw [e1] at hz hP ⊢
    simp only [acc, e2, Nat.sub_self] at hP
    have : enc (decP s a) = [decP s a] := by unfold enc; rw [if_pos (by omega)]
    rw [this]
    refine ⟨rfl, fun j hj => ?_⟩
    obtain rfl : j = 0 := by omega
    simp [hP]
  · rw [e1] at hz hP hc ⊢
    simp only [acc, e2, Nat.add_zero, show 2 - 1 = 1 from rfl] at hP
    simp only [conts, Nat.add_zero, show 2 - 1 = 1 from rfl, Bool.true_and, decide_eq_true_eq] at hc
    have lo := (szOf_lo (p := decP s a)).1 hz
    have hi : decP s a < 2048 := by unfold szOf at hz; (repeat' split at hz) <;> omega
    have : enc (decP s a) = [192 + decP s a / 64, 128 + decP s a % 64] := by unfold enc; rw [if_neg (by omega), if_pos hi]
    rw [this]
    refine ⟨rfl, fun j hj => ?_⟩
    match j, hj with
    | 0, _ => simp; omega
    | 1, _ => simp; omega
  · rw [e1] at hz hP hc ⊢
    simp only [acc, e2, Nat.add_zero, show 3 - 1 = 2 from rfl] at hP
    simp only [conts, Nat.add_zero, show 3 - 1 = 2 from rfl, Bool.true_and, Bool.and_eq_true, decide_eq_true_eq] at hc
    have lo := (szOf_lo (p := decP s a)).2.1 hz
    have hi : decP s a < 65536 := by unfold szOf at hz; (repeat' split at hz) <;> omega
    have : enc (decP s a) = [224 + decP s a / 4096, 128 + decP s a / 64 % 64, 128 + decP s a % 64] := by unfold enc; rw [if_neg (by omega), if_neg (by omega), if_pos hi]
    rw [this]
    refine ⟨rfl, fun j hj => ?_⟩
    match j, hj with
    | 0, _ => simp; omega
    | 1, _ => simp; omega
    | 2, _ => simp only [show a + 2 = a + 1 + 1 from rfl]; simp; omega
  · rw [e1] at hz hP hc ⊢
    simp only [acc, e2, Nat.add_zero, show 4 - 1 = 3 from rfl] at hP
    simp only [conts, Nat.add_zero, show 4 - 1 = 3 from rfl, Bool.true_and, Bool.and_eq_true, decide_eq_true_eq] at hc
    have lo := (szOf_lo (p := decP s a)).2.2 hz
    have : enc (decP s a) = [240 + decP s a / 262144, 128 + decP s a / 4096 % 64, 128 + decP s a / 64 % 64, 128 + decP s a % 64] := by unfold enc; rw [if_neg (by omega), if_neg (by omega), if_neg (by omega)]
    rw [this]
    refine ⟨rfl, fun j hj => ?_⟩
    match j, hj with
    | 0, _ => simp; omega
    | 1, _ => simp; omega
    | 2, _ => simp only [show a + 2 = a + 1 + 1 from rfl]; simp; omega
    | 3, _ => simp only [show a + 3 = a + 1 + 2 from rfl]; simp; omega
theorem m0_lead {s : ByteArray} {a : Nat} (h : decIs s a = true) : numN s a (leadN (byt s a)) = decP s a := by
  have hP : decP s a = acc s (a + 1) (leadB (byt s a)) (leadN (byt s a) - 1) := by unfold decP; rw [if_pos h]
  rw [hP]
  unfold numN
  congr 1
  rcases lead_cases (byt s a) (decIs_lead h).1 with ⟨e1, e2, e3⟩ | ⟨e1, e2, e3, e4⟩ | ⟨e1, e2, e3, e4⟩ | ⟨e1, e2, e3, e4⟩ <;> rw [e1, e2] <;> simp [m0]
/-- So many bytes are a code point's just where one begins that has so many. -/
theorem one_iff {s : ByteArray} {a z : Nat} (hz1 : 1 ≤ z) (hs : a + z ≤ s.size) : tpB s a z = (decIs s a && decide (leadN (byt s a) = z)) := by
  rw [Bool.eq_iff_iff]
  simp only [tpB, Bool.and_eq_true, decide_eq_true_eq]
  constructor
  · rintro ⟨hp, he⟩
    have hl : (enc (numN s a z)).length = z := by
      have := congrArg ByteArray.size he
      rw [mkB_size] at this
      rw [this]; simp; omega
    have hr := isPt_range hp
    have := dec_enc (s := s) (a := a) hp (by omega) (fun j hj => by
      have h1 := byt_extract hs j (by omega)
      rw [← he, mkB_byt _ _ hj (by
        have hm : (enc (numN s a z)).getD j 0 ∈ enc (numN s a z) := by
          simp only [List.getD, List.getElem?_eq_getElem hj, Option.getD_some]; exact List.getElem_mem hj
        exact enc_range hr.1 hr.2 _ hm)] at h1
      exact h1.symm)
    exact ⟨this.1, by rw [this.2.2, hl]⟩
  · rintro ⟨hd, hz⟩
    subst hz
    rw [m0_lead hd]
    have hp : isPt (decP s a) = true := by
      have hP : decP s a = acc s (a + 1) (leadB (byt s a)) (leadN (byt s a) - 1) := by unfold decP; rw [if_pos hd]
      have hd' := hd
      simp only [decIs, Bool.and_eq_true, decide_eq_true_eq] at hd'
      rw [hP]; exact hd'.1.2
    have hr := isPt_range hp
    have he := enc_dec hd
    refine ⟨hp, byt_ext ?_ (fun i hi => ?_)⟩
    · rw [mkB_size, he.1]; simp; omega
    · rw [mkB_size] at hi
      have hm : (enc (decP s a)).getD i 0 ∈ enc (decP s a) := by
        simp only [List.getD, List.getElem?_eq_getElem hi, Option.getD_some]; exact List.getElem_mem hi
      rw [mkB_byt _ _ hi (enc_range hr.1 hr.2 _ hm), byt_extract hs i (by rw [← he.1]; exact hi), he.2 i (by rw [← he.1]; exact hi)]
def tpP (s : ByteArray) (i : Int) (z : Nat) : Int := if 0 ≤ i ∧ i + z ≤ s.size then numN s i.toNat z else 0
def tpI (s : ByteArray) (i : Int) (z : Nat) : Bool := if 0 ≤ i ∧ i + z ≤ s.size then tpB s i.toNat z else false
theorem oneI_at {s : ByteArray} {a z : Nat} (ha : a < s.size) (hz : 1 ≤ z) : tpI s (a : Int) z = (decIs s a && decide (leadN (byt s a) = z)) := by
  unfold tpI
  by_cases h : a + z ≤ s.size
  · rw [if_pos (by omega), Int.toNat_natCast, one_iff hz h]
  · rw [if_neg (by omega)]
    cases hd : decIs s a
    · rfl
    · have := dec_in ha hd
      have : leadN (byt s a) ≠ z := by omega
      simp [this]
theorem oneP_at {s : ByteArray} {a z : Nat} (ha : a < s.size) (hz : 1 ≤ z) (h : tpI s (a : Int) z = true) : tpP s (a : Int) z = decP s a ∧ decIs s a = true ∧ leadN (byt s a) = z := by
  have h2 := h
  rw [oneI_at ha hz, Bool.and_eq_true, decide_eq_true_eq] at h2
  obtain ⟨hd, rfl⟩ := h2
  have := dec_in ha hd
  refine ⟨?_, hd, rfl⟩
  unfold tpP
  rw [if_pos (by omega), Int.toNat_natCast, m0_lead hd]
/-- What the search answers where one begins, and where none does. -/
theorem nx_found {s : ByteArray} {a z : Nat} (ha : a < s.size) (hz : 1 ≤ z) (h : tpI s (a : Int) z = true) : nxP s a = tpP s a z ∧ nxN s a = z ∧ nxE s a = 0 := by
  have := oneP_at ha hz h
  have hN := decN_eq s a
  rw [this.2.1] at hN
  simp at hN
  unfold nxP nxN nxE
  rw [if_pos (by omega), if_pos (by omega), if_pos (by omega), Int.toNat_natCast, this.2.1, this.1, hN.1, this.2.2]
  exact ⟨rfl, rfl, rfl⟩
theorem nx_lost {s : ByteArray} {a : Nat} (ha : a < s.size) (h : ∀ z, 1 ≤ z → z ≤ 4 → tpI s (a : Int) z = false) : nxP s a = 0 ∧ nxN s a = 0 ∧ nxE s a = 10 := by
  have hd : decIs s a = false := by
    cases hd : decIs s a
    · rfl
    · have h0 := (decIs_lead hd).1
      have h4 := leadN_le (byt s a)
      have := h (leadN (byt s a)) (by omega) h4
      rw [oneI_at ha (by omega), hd] at this
      simp at this
  have hn := dec_no hd
  unfold nxP nxN nxE
  rw [if_pos (by omega), if_pos (by omega), if_pos (by omega), Int.toNat_natCast, hd, hn.1, hn.2]
  exact ⟨rfl, rfl, rfl⟩
end Go.Proofs.YtmkkckhfdafjnaaGreatDoor
/- The document's code points of a text: number, Is, Bytes, One (as in layer 1). -/
namespace Go.Proofs.YtmkkckhfdafjnaaGreatDoor
open Go.RowKit
set_option maxRecDepth 20000 in
theorem below_drewN0 {B : Nat} {w w1 : World} (h : Below B w w1) (n : Nat) : Below B w (w1.drewN n) := ⟨h.os, h.tape, h.output, h.size, h.block⟩
set_option maxRecDepth 20000 in
theorem conv_own {w : World} {B : Nat} {v : Value} {L : List Int} (h : w.ownsRow B 5 1 v L.length (L.map (Value.int .u8))) (hr : ∀ x ∈ L, 0 ≤ x ∧ x < 256) :
    (convert 26 9 v).run Tryz.prog w = .ok (.string (mkB L)) w := by
  rcases h.2 with ⟨rfl, hn⟩ | ⟨g, cap, cur, rfl, hg, hgg, h1, h2, h3, h4⟩
  · have : L = [] := by cases L <;> simp_all
    subst this
    exact Lib.run_convert_nil_bytes w 26 9 5 0 Tryz.underlying26 Tryz.underlying5 Tryz.underlying9
  · have k := run_convert_bytes_back (P := Tryz.prog) w 26 9 5 ⟨g, 0, none⟩ cap (L.map (fun x => UInt8.ofNat x.toNat)) Tryz.underlying26 Tryz.underlying5 Tryz.underlying9 (fun j hj => by
      have hj' : j < L.length := by simpa using hj
      have hx := hr L[j] (List.getElem_mem hj')
      rw [Addr.add_lit, Nat.zero_add, h.cellAt j (by omega)]
      simp only [List.getElem?_map, List.getElem?_eq_getElem hj', Option.map_some, List.getElem_map, Option.some.injEq, Value.int.injEq, true_and]
      rw [UInt8.toNat_ofNat']; omega)
    rw [List.length_map] at k
    exact k
set_option maxRecDepth 20000 in
theorem m0_range (s : ByteArray) (a z : Nat) : 0 ≤ m0 (byt s a) z ∧ m0 (byt s a) z < 256 := by
  have := byt_range s a
  unfold m0; (repeat' split) <;> omega
set_option maxRecDepth 20000 in
theorem acc_lt (s : ByteArray) (a : Nat) (p : Int) (h0 : 0 ≤ p) (h1 : p < 256) : ∀ k, k ≤ 3 → 0 ≤ acc s a p k ∧ acc s a p k < 67108864 := by
  intro k hk
  match k, hk with
  | 0, _ => simp [acc]; omega
  | 1, _ => simp only [acc]; omega
  | 2, _ => simp only [acc]; omega
  | 3, _ => simp only [acc]; omega

set_option maxRecDepth 20000 in
theorem str_eq (x y : ByteArray) : (x.toList == y.toList) = decide (x = y) := by
  rw [ByteArray.toList_eq, ByteArray.toList_eq, Bool.eq_iff_iff]
  simp only [beq_iff_eq, decide_eq_true_eq]
  exact ⟨fun h => ByteArray.ext (Array.toList_inj.1 h), fun h => by rw [h]⟩
set_option maxRecDepth 20000 in
theorem one_end {n n' : Int} {x y : ByteArray} {g : Bool} {w w1 w' : World} (hn : n' = n) (hg : g = decide (x = y)) (hb : Hid (Below w.heap.size w w1)) (hd : w' = w1 ∨ w' = w1.drew) :
    Ending.returned (.tuple #[.int .i64 n, .bool (x.toList == y.toList)]) = .returned (.tuple #[.int .i64 n', .bool g]) ∧ Below w.heap.size w w' := by
  refine ⟨by rw [hn, hg, str_eq], ?_⟩
  rcases hd with rfl | rfl
  · exact hb.out
  · exact hb.out.drew

end Go.Proofs.YtmkkckhfdafjnaaGreatDoor
/- The document's code points of a text: Next, Points (as in layer 1). -/
namespace Go.Proofs.YtmkkckhfdafjnaaGreatDoor
open Go.RowKit
set_option maxRecDepth 20000 in
theorem ret3 {a b c d e f : Int} (h : a = b) (g : c = d) (k : e = f) : Ending.returned (.tuple #[.int .i64 a, .int .i64 c, .int .i64 e]) = .returned (.tuple #[.int .i64 b, .int .i64 d, .int .i64 f]) := by rw [h, g, k]
set_option maxRecDepth 20000 in
theorem nx_at {s : ByteArray} {a : Nat} (h : a < s.size) : nxP s a = decP s a ∧ nxN s a = decN s a ∧ nxE s a = if decIs s a then 0 else 10 := by
  unfold nxP nxN nxE
  rw [if_pos (by omega), if_pos (by omega), if_pos (by omega), Int.toNat_natCast]
  exact ⟨rfl, rfl, rfl⟩
set_option maxRecDepth 20000 in
theorem pts_end {v v' : Value} {g g' : Bool} (h : v = v') (k : g = g') : Ending.returned (.tuple #[v, .bool g]) = .returned (.tuple #[v', .bool g']) := by rw [h, k]
end Go.Proofs.YtmkkckhfdafjnaaGreatDoor
/- Plain facts on numbers for layer 2: what fits 64 bits, with its sign. No program in sight. -/
namespace Go.Proofs.YtmkkckhfdafjnaaGreatDoor.Nm
open Go.RowKit

/-- Does a number fit an int64? -/
def fits (z : Int) : Bool := decide (-9223372036854775808 ≤ z ∧ z ≤ 9223372036854775807)
/-- What comes of a number: itself or 0. -/
def val (z : Int) : Int := if fits z then z else 0
/-- Its error: none or 20. -/
def err (z : Int) : Int := if fits z then 0 else 20
/-- A sign and a size. -/
def sv (s m : Int) : Int := if s = 0 then -m else m

theorem fits_yes {z : Int} (h0 : -9223372036854775808 ≤ z) (h1 : z ≤ 9223372036854775807) : fits z = true := by unfold fits; simp; omega
theorem fits_no {z : Int} (h : z < -9223372036854775808 ∨ 9223372036854775807 < z) : fits z = false := by unfold fits; simp; omega
theorem val_yes {z : Int} (h0 : -9223372036854775808 ≤ z) (h1 : z ≤ 9223372036854775807) : val z = z := by unfold val; rw [fits_yes h0 h1]; rfl
theorem err_yes {z : Int} (h0 : -9223372036854775808 ≤ z) (h1 : z ≤ 9223372036854775807) : err z = 0 := by unfold err; rw [fits_yes h0 h1]; rfl
theorem val_no {z : Int} (h : z < -9223372036854775808 ∨ 9223372036854775807 < z) : val z = 0 := by unfold val; rw [fits_no h]; rfl
theorem err_no {z : Int} (h : z < -9223372036854775808 ∨ 9223372036854775807 < z) : err z = 20 := by unfold err; rw [fits_no h]; rfl
theorem fits_cases (z : Int) : (-9223372036854775808 ≤ z ∧ z ≤ 9223372036854775807 ∧ val z = z ∧ err z = 0) ∨ ((z < -9223372036854775808 ∨ 9223372036854775807 < z) ∧ val z = 0 ∧ err z = 20) := by
  by_cases h : -9223372036854775808 ≤ z ∧ z ≤ 9223372036854775807
  · exact .inl ⟨h.1, h.2, val_yes h.1 h.2, err_yes h.1 h.2⟩
  · have h' : z < -9223372036854775808 ∨ 9223372036854775807 < z := by omega
    exact .inr ⟨h', val_no h', err_no h'⟩
theorem val_range (z : Int) : -9223372036854775808 ≤ val z ∧ val z ≤ 9223372036854775807 := by
  rcases fits_cases z with ⟨h0, h1, h2, _⟩ | ⟨_, h2, _⟩ <;> rw [h2] <;> omega
theorem err_two (z : Int) : err z = 0 ∨ err z = 20 := by rcases fits_cases z with ⟨_, _, _, h⟩ | ⟨_, _, h⟩ <;> simp [h]

theorem ret2 {k l : IntKind} {a b c d : Int} (h : a = b) (g : c = d) : Ending.returned (.tuple #[.int k a, .int l c]) = .returned (.tuple #[.int k b, .int l d]) := by rw [h, g]
theorem ret_bool {a b : Bool} (h : a = b) : Ending.returned (.bool a) = .returned (.bool b) := by rw [h]
theorem neg_wrap (n : Int) (h : -9223372036854775808 ≤ n) (hn : n < 0) : IntKind.u64.wrap (-IntKind.u64.wrap n) = -n := by
  rw [IntKind.wrap_u64, IntKind.wrap_u64]; omega
theorem back_wrap (m : Int) (h0 : 0 ≤ m) (h1 : m ≤ 9223372036854775808) : wrap64 (IntKind.u64.wrap (-m)) = -m := by
  rw [IntKind.wrap_u64]; unfold wrap64; omega
end Go.Proofs.YtmkkckhfdafjnaaGreatDoor.Nm
namespace Go.Proofs.YtmkkckhfdafjnaaGreatDoor.Nm
open Go.RowKit

/-- What the table of limits holds. -/
def Lim (w : World) : Prop := w.cell? ⟨1, 0, none⟩ = some (.int .u64 9223372036854775808) ∧ w.cell? ⟨1, 1, none⟩ = some (.int .u64 9223372036854775807)

theorem limit0 (w : World) (l : Lim w) : Calls Tryz.prog 111 #[.int .u8 0] w fun e w' => e = .returned (.int .u64 9223372036854775808) ∧ w = w' := by
  obtain ⟨l0, _⟩ := l
  go_enter Tryz.func111, Tryz.ntmps111
  go_wp2
  go_ret
  exact ⟨rfl, rfl⟩
theorem limit1 (w : World) (l : Lim w) : Calls Tryz.prog 111 #[.int .u8 1] w fun e w' => e = .returned (.int .u64 9223372036854775807) ∧ w = w' := by
  obtain ⟨_, l1⟩ := l
  go_enter Tryz.func111, Tryz.ntmps111
  go_wp2
  go_ret
  exact ⟨rfl, rfl⟩
theorem add64_run (x y : Int) (hx : 0 ≤ x) (hy : 0 ≤ y) (w : World) : (callFunc 104 #[.int .u64 x, .int .u64 y, .int .u64 0]).run Tryz.prog w = .ok (.value (.tuple #[.int .u64 ((x + y) % 18446744073709551616), .int .u64 ((x + y) / 18446744073709551616)])) w := by
  rw [run_callFunc_extern Tryz.func104 (by kernel_rfl) (by kernel_rfl) (by kernel_rfl) (e := add64Entry) (by kernel_rfl), run_add64 x y 0 hx hy (by omega) (by omega)]
  simp only [Result.andThen, Int.add_zero]

theorem join_any (s m : Int) (w : World) (l : Lim w) (hs : s = 0 ∨ s = 1) (h0 : 0 ≤ m) (h1 : m < 18446744073709551616) :
    Calls Tryz.prog 105 #[.int .u8 s, .int .u64 m] w fun e w' => e = .returned (.tuple #[.int .i64 (val (sv s m)), .int .i64 (err (sv s m))]) ∧ w = w' := by
  rcases hs with rfl | rfl
  · by_cases h : m ≤ 9223372036854775808
    · go_enter Tryz.func105, Tryz.ntmps105
      go_wp2_with (go_at_call 111; refine (limit0 _ l).mono ?_; rintro e w' ⟨rfl, rfl⟩)
      go_ret2
      have hz : sv 0 m = -m := by simp [sv]
      exact ⟨ret2 (by rw [hz, back_wrap m h0 h, val_yes (by omega) (by omega)]) (by rw [hz, err_yes (by omega) (by omega)]), rfl⟩
    · go_enter Tryz.func105, Tryz.ntmps105
      go_wp2_with (go_at_call 111; refine (limit0 _ l).mono ?_; rintro e w' ⟨rfl, rfl⟩)
      go_ret2
      have hz : sv 0 m = -m := by simp [sv]
      exact ⟨ret2 (by rw [hz, val_no (by omega)]) (by rw [hz, err_no (by omega)]), rfl⟩
  · by_cases h : m ≤ 9223372036854775807
    · go_enter Tryz.func105, Tryz.ntmps105
      go_wp2_with (go_at_call 111; refine (limit1 _ l).mono ?_; rintro e w' ⟨rfl, rfl⟩)
      go_ret2
      have hz : sv 1 m = m := by simp [sv]
      exact ⟨ret2 (by rw [hz, val_yes (by omega) (by omega)]) (by rw [hz, err_yes (by omega) (by omega)]), rfl⟩
    · go_enter Tryz.func105, Tryz.ntmps105
      go_wp2_with (go_at_call 111; refine (limit1 _ l).mono ?_; rintro e w' ⟨rfl, rfl⟩)
      go_ret2
      have hz : sv 1 m = m := by simp [sv]
      exact ⟨ret2 (by rw [hz, val_no (by omega)]) (by rw [hz, err_no (by omega)]), rfl⟩

end Go.Proofs.YtmkkckhfdafjnaaGreatDoor.Nm
/- Plain facts for layer 2: digits and what they tell. No program in sight. -/
namespace Go.Proofs.YtmkkckhfdafjnaaGreatDoor.Nm
open Go.RowKit

/-- The byte at a place; 0 behind the end. -/
def byt (s : ByteArray) (i : Nat) : Int := if h : i < s.size then (s[i].toNat : Int) else 0
theorem byt_range (s : ByteArray) (i : Nat) : 0 ≤ byt s i ∧ byt s i < 256 := by
  unfold byt; split
  · have := UInt8.toNat_lt s[i]; omega
  · omega
theorem byt_eq (s : ByteArray) (i : Nat) (h : i < s.size) : (s[i].toNat : Int) = byt s i := by simp [byt, h]
/-- Are the first k bytes digits? -/
def allD (s : ByteArray) : Nat → Bool
  | 0 => true
  | k + 1 => allD s k && decide (48 ≤ byt s k ∧ byt s k ≤ 57)
/-- Are they 0, or digits the first of which is not 0? -/
def areD (s : ByteArray) : Bool := decide (0 < s.size) && !(decide (byt s 0 = 48) && decide (s.size ≠ 1)) && allD s s.size
/-- What the first k digits tell. -/
def valD (s : ByteArray) : Nat → Int
  | 0 => 0
  | k + 1 => valD s k * 10 + (byt s k - 48)
theorem allD_mono (s : ByteArray) : ∀ k j, j ≤ k → allD s k = true → allD s j = true := by
  intro k
  induction k with
  | zero => intro j hj h; rw [Nat.le_zero.1 hj]; exact h
  | succ k ih =>
    intro j hj h
    by_cases e : j = k + 1
    · rw [e]; exact h
    · simp only [allD, Bool.and_eq_true] at h
      exact ih j (by omega) h.1
theorem allD_byte (s : ByteArray) (k j : Nat) (hj : j < k) (h : allD s k = true) : 48 ≤ byt s j ∧ byt s j ≤ 57 := by
  have := allD_mono s k (j + 1) hj h
  simp only [allD, Bool.and_eq_true, decide_eq_true_eq] at this
  exact this.2
theorem valD_nonneg (s : ByteArray) : ∀ k, allD s k = true → 0 ≤ valD s k := by
  intro k
  induction k with
  | zero => intro _; exact Int.le_refl _
  | succ k ih =>
    intro h
    simp only [allD, Bool.and_eq_true, decide_eq_true_eq] at h
    have := ih h.1
    simp only [valD]; omega
theorem valD_mono (s : ByteArray) : ∀ k j, j ≤ k → allD s k = true → valD s j ≤ valD s k := by
  intro k
  induction k with
  | zero => intro j hj _; rw [Nat.le_zero.1 hj]; exact Int.le_refl _
  | succ k ih =>
    intro j hj h
    by_cases e : j = k + 1
    · rw [e]; exact Int.le_refl _
    · have h' := h
      simp only [allD, Bool.and_eq_true, decide_eq_true_eq] at h'
      have h1 := ih j (by omega) h'.1
      have h2 := valD_nonneg s k h'.1
      simp only [valD]; omega
theorem areD_parts {s : ByteArray} (h : areD s = true) : 0 < s.size ∧ (byt s 0 = 48 → s.size = 1) ∧ allD s s.size = true := by
  simp only [areD, Bool.and_eq_true, decide_eq_true_eq, Bool.not_eq_true', Bool.and_eq_false_iff, decide_eq_false_iff_not] at h
  refine ⟨h.1.1, fun hb => ?_, h.2⟩
  rcases h.1.2 with g | g
  · exact absurd hb g
  · exact Classical.not_not.1 g
theorem list_one (s : ByteArray) (h0 : 0 < s.size) (hb : byt s 0 = 48) : (s.toList == [48]) = decide (s.size = 1) := by
  rw [Lib.toList_data, Bool.eq_iff_iff, beq_iff_eq, decide_eq_true_eq, Lib.size_eq]
  constructor
  · intro h; rw [h]; rfl
  · intro h
    have h1 : 0 < s.data.toList.length := by omega
    obtain ⟨x, hx⟩ := List.length_eq_one_iff.1 h
    have e0 : s[0]'h0 = x := by
      have : s.data.toList[0]'h1 = x := by simp [hx]
      rw [← this]; rfl
    rw [hx]
    have := byt_eq s 0 h0
    rw [hb, e0] at this
    have hx : x = 48 := UInt8.toNat_inj.1 (by have h48 : (48 : UInt8).toNat = 48 := rfl; omega)
    rw [hx]
theorem list_empty (s : ByteArray) : s.toList.isEmpty = decide (s.size = 0) := by
  rw [Lib.toList_data, Bool.eq_iff_iff, decide_eq_true_eq, Lib.size_eq, List.isEmpty_iff, List.length_eq_zero_iff]
/-- The text without a leading '-', and whether it has one. -/
def isNeg (s : ByteArray) : Bool := decide (0 < s.size) && decide (byt s 0 = 45)
def bare (s : ByteArray) : ByteArray := if isNeg s then s.extract 1 s.size else s
def sgn (s : ByteArray) : Int := if isNeg s then 0 else 1
/-- What Read tells: a number, and an error. -/
def rdZ (s : ByteArray) : Int := sv (sgn s) (valD (bare s) (bare s).size)
def rdV (s : ByteArray) : Int := if areD (bare s) then val (rdZ s) else 0
def rdE (s : ByteArray) : Int := if areD (bare s) then err (rdZ s) else 21
end Go.Proofs.YtmkkckhfdafjnaaGreatDoor.Nm
/- Layer 4, Read: what bytes tell (plain). -/
namespace Go.Proofs.YtmkkckhfdafjnaaGreatDoor
open Go.RowKit
/-- What is read, or an error's number. -/
inductive Rs (α : Type) where
  | ok (x : α) : Rs α
  | bad (e : Int) : Rs α
def Rs.bind {α β : Type} (x : Rs α) (f : α → Rs β) : Rs β := match x with
  | .ok a => f a
  | .bad e => .bad e
@[simp] theorem Rs.bind_ok {α β : Type} (a : α) (f : α → Rs β) : (Rs.ok a).bind f = f a := rfl
@[simp] theorem Rs.bind_bad {α β : Type} (e : Int) (f : α → Rs β) : (Rs.bad e : Rs α).bind f = .bad e := rfl
def isBl (b : Int) : Bool := decide (b = 32) || decide (b = 9) || decide (b = 10) || decide (b = 13)
def blF (s : ByteArray) : Nat → Nat → Nat
  | 0, i => i
  | f + 1, i => if isBl (byt s i) then blF s f (i + 1) else i
/-- Behind blanks. -/
def bl (s : ByteArray) (i : Nat) : Nat := blF s (s.size - i) i
def isDg (b : Int) : Bool := decide (48 ≤ b) && decide (b ≤ 57)
def dgF (s : ByteArray) : Nat → Nat → Nat
  | 0, i => i
  | f + 1, i => if isDg (byt s i) then dgF s f (i + 1) else i
/-- Behind digits. -/
def dg (s : ByteArray) (i : Nat) : Nat := dgF s (s.size - i) i
/-- Those bytes stand next. -/
def wordM (s : ByteArray) : List Int → Nat → Rs Nat
  | [], i => .ok i
  | c :: r, i => if byt s i = c then wordM s r (i + 1) else .bad 40
def hexV (b : Int) : Int := if 48 ≤ b ∧ b ≤ 57 then b - 48 else if 97 ≤ b ∧ b ≤ 102 then b - 97 + 10 else if 65 ≤ b ∧ b ≤ 70 then b - 65 + 10 else -1
def fourF (s : ByteArray) : Nat → Nat → Int → Rs (Int × Nat)
  | 0, i, n => .ok (n, i)
  | k + 1, i, n => if hexV (byt s i) < 0 then .bad 40 else fourF s k (i + 1) (n * 16 + hexV (byt s i))
def pointM (s : ByteArray) (i : Nat) : Rs (Int × Nat) :=
  (fourF s 4 i 0).bind fun x =>
    if 55296 ≤ x.1 ∧ x.1 ≤ 56319 then
      (wordM s [92, 117] x.2).bind fun j => (fourF s 4 j 0).bind fun y =>
        if y.1 < 56320 ∨ 57343 < y.1 then .bad 40 else .ok (65536 + (x.1 % 1024 * 1024 + y.1 % 1024), y.2)
    else if isPt x.1 then .ok x else .bad 40
def escM (s : ByteArray) (i : Nat) : Rs (List Int × Nat) :=
  let b := byt s i
  if b = 34 ∨ b = 92 ∨ b = 47 then .ok ([b], i + 1)
  else if b = 98 then .ok ([8], i + 1)
  else if b = 102 then .ok ([12], i + 1)
  else if b = 110 then .ok ([10], i + 1)
  else if b = 114 then .ok ([13], i + 1)
  else if b = 116 then .ok ([9], i + 1)
  else if b = 117 then (pointM s (i + 1)).bind fun x => .ok (enc x.1, x.2)
  else .bad 40
def strF (s : ByteArray) : Nat → Nat → List Int → Rs (List Int × Nat)
  | 0, _, _ => .bad 40
  | f + 1, j, l =>
    if byt s j = 34 then .ok (l, j + 1)
    else if byt s j = 92 then (escM s (j + 1)).bind fun x => strF s f x.2 (l ++ x.1)
    else if byt s j < 32 then .bad 40
    else strF s f (j + 1) (l ++ [byt s j])
/-- A string. -/
def strM (s : ByteArray) (i : Nat) : Rs (List Int × Nat) := (wordM s [34] i).bind fun j => strF s (s.size - j + 1) j []
/-- Behind a number's first part. -/
def intM (s : ByteArray) (i : Nat) : Rs Nat :=
  let a := if byt s i = 45 then i + 1 else i
  if byt s a = 48 then .ok (a + 1) else if dg s a = a then .bad 40 else .ok (dg s a)
/-- Behind a fraction, an exponent, if there is one. -/
def fracM (s : ByteArray) (b : Nat) : Nat := if byt s b = 46 then (if dg s (b + 1) = b + 1 then b else dg s (b + 1)) else b
def expoM (s : ByteArray) (b : Nat) : Nat :=
  if byt s b = 101 ∨ byt s b = 69 then
    let c := if byt s (b + 1) = 43 ∨ byt s (b + 1) = 45 then b + 2 else b + 1
    if dg s c = c then b else dg s c
  else b
/-- A number, and the place behind it. -/
def numM (s : ByteArray) (i : Nat) : Rs (Int × Nat) :=
  (intM s i).bind fun b =>
    let d := expoM s (fracM s b)
    if Nm.rdE (s.extract i d) = 0 then .ok (Nm.rdV (s.extract i d), d) else .bad 41
/-- A cell turned, at a place. -/
def setC (L : List CR) (h : Nat) (f : CR → CR) : List CR := L.set h (f (L.getD h default))
def incC (L : List CR) (h : Nat) : List CR := setC L h (fun c => { c with m := c.m + 1 })
abbrev Out := Nat × List CR
/-- Items behind one that is read already, to the bracket's end. -/
def lstF (s : ByteArray) (V : Nat → List CR → Rs Out) (h : Nat) : Nat → Nat → List CR → Rs Out
  | 0, _, _ => .bad 40
  | f + 1, i, L =>
    if byt s i = 44 then (V (bl s (i + 1)) L).bind fun x => lstF s V h f (bl s x.1) (incC x.2 h)
    else (wordM s [93] i).bind fun j => .ok (j, L)
/-- A list's items, behind its bracket. -/
def lstM (s : ByteArray) (V : Nat → List CR → Rs Out) (h i : Nat) (L : List CR) : Rs Out :=
  if byt s i = 93 then .ok (i + 1, L) else (V i L).bind fun x => lstF s V h (s.size - x.1 + 1) (bl s x.1) (incC x.2 h)
/-- A member: its name, and its value. -/
def memM (s : ByteArray) (V : ByteArray → Nat → List CR → Rs Out) (h i : Nat) (names : List ByteArray) (L : List CR) : Rs (Out × List ByteArray) :=
  (strM s i).bind fun x =>
    if x.1 = [] then .bad 8 else if names.any (fun y => decide (y = mkB x.1)) = true then .bad 42 else
    (wordM s [58] (bl s x.2)).bind fun k => (V (mkB x.1) (bl s k) L).bind fun y => .ok ((y.1, incC y.2 h), mkB x.1 :: names)
def objF (s : ByteArray) (V : ByteArray → Nat → List CR → Rs Out) (h : Nat) : Nat → Nat → List ByteArray → List CR → Rs Out
  | 0, _, _, _ => .bad 40
  | f + 1, i, names, L =>
    if byt s i = 44 then (memM s V h (bl s (i + 1)) names L).bind fun x => objF s V h f (bl s x.1.1) x.2 x.1.2
    else (wordM s [125] i).bind fun j => .ok (j, L)
def objM (s : ByteArray) (V : ByteArray → Nat → List CR → Rs Out) (h i : Nat) (L : List CR) : Rs Out :=
  if byt s i = 125 then .ok (i + 1, L) else (memM s V h i [] L).bind fun x => objF s V h (s.size - x.1.1 + 1) (bl s x.1.1) x.2 x.1.2
/-- May a value begin with a byte? -/
def isSt (b : Int) : Bool := decide (b = 123) || decide (b = 91) || decide (b = 34) || decide (b = 116) || decide (b = 102) || decide (b = 110) || decide (b = 45) || isDg b
/-- A value, of a name, so many brackets being open (f: how many more may be, and one). -/
def valM (s : ByteArray) : Nat → ByteArray → Nat → Nat → List CR → Rs Out
  | 0, _, _, _, _ => .bad 30
  | f + 1, nm, op, i, L =>
    if isSt (byt s i) = false then .bad 40
    else if (byt s i = 123 ∨ byt s i = 91) ∧ op = 16 then .bad 30
    else if L.length = 2048 then .bad 4
    else if byt s i = 123 then objM s (fun nm' j M => valM s f nm' (op + 1) j M) L.length (bl s (i + 1)) (L ++ [⟨7, nm, ⟨#[]⟩, 0, 0⟩])
    else if byt s i = 91 then lstM s (fun j M => valM s f ⟨#[]⟩ (op + 1) j M) L.length (bl s (i + 1)) (L ++ [⟨6, nm, ⟨#[]⟩, 0, 0⟩])
    else if byt s i = 34 then (strM s i).bind fun x => .ok (x.2, L ++ [⟨3, nm, mkB x.1, 0, 0⟩])
    else if byt s i = 116 then (wordM s [116, 114, 117, 101] i).bind fun j => .ok (j, L ++ [⟨1, nm, ⟨#[]⟩, 1, 0⟩])
    else if byt s i = 102 then (wordM s [102, 97, 108, 115, 101] i).bind fun j => .ok (j, L ++ [⟨1, nm, ⟨#[]⟩, 0, 0⟩])
    else if byt s i = 110 then (wordM s [110, 117, 108, 108] i).bind fun j => .ok (j, L ++ [⟨0, nm, ⟨#[]⟩, 0, 0⟩])
    else (numM s i).bind fun x => .ok (x.2, L ++ [⟨2, nm, ⟨#[]⟩, x.1, 0⟩])
/-- What a text tells. -/
def readM (s : ByteArray) : Rs (List CR) :=
  if ckE s ≠ 0 then .bad (ckE s) else
  (valM s 17 ⟨#[]⟩ 0 (bl s 0) []).bind fun x => if bl s x.1 < s.size then .bad 40 else .ok x.2
end Go.Proofs.YtmkkckhfdafjnaaGreatDoor
/- Plain facts for layer 1: the bytes of code points are read as those code points; how many a text has. No program in sight. -/
namespace Go.Proofs.YtmkkckhfdafjnaaGreatDoor
open Go.RowKit

/-- The bytes of the first k code points. -/
def encs (L : List Int) : Nat → List Int
  | 0 => []
  | k + 1 => encs L k ++ enc (L.getD k 0)
/-- Are the first k numbers code points? -/
def allPt (L : List Int) : Nat → Bool
  | 0 => true
  | k + 1 => allPt L k && isPt (L.getD k 0)
def putE (L : List Int) : Int := if 16384 < L.length then 4 else if allPt L L.length then 0 else 10
def putS (L : List Int) : ByteArray := if putE L = 0 then mkB (encs L L.length) else ⟨#[]⟩

theorem encs_len (L : List Int) : ∀ k, (encs L k).length ≤ 4 * k := by
  intro k
  induction k with
  | zero => simp [encs]
  | succ k ih => simp only [encs, List.length_append]; have := enc_len (L.getD k 0); omega
theorem encs_range (L : List Int) : ∀ k, allPt L k = true → ∀ x ∈ encs L k, 0 ≤ x ∧ x < 256 := by
  intro k
  induction k with
  | zero => intro _ x hx; simp [encs] at hx
  | succ k ih =>
    intro h x hx
    simp only [allPt, Bool.and_eq_true] at h
    simp only [encs, List.mem_append] at hx
    rcases hx with hx | hx
    · exact ih h.1 x hx
    · have := isPt_range h.2
      exact enc_range this.1 this.2 x hx
theorem allPt_le {L : List Int} {j k : Nat} (hjk : j ≤ k) (h : allPt L k = true) : allPt L j = true := by
  induction k with
  | zero => obtain rfl : j = 0 := by omega
            exact h
  | succ k ih =>
    by_cases e : j = k + 1
    · subst e; exact h
    · simp only [allPt, Bool.and_eq_true] at h
      exact ih (by omega) h.1

theorem put_many {L : List Int} (h : 16384 < L.length) : putE L = 4 ∧ putS L = ⟨#[]⟩ := by
  have : putE L = 4 := by unfold putE; rw [if_pos h]
  exact ⟨this, by unfold putS; rw [this]; rfl⟩
theorem put_bad {L : List Int} (h : ¬ 16384 < L.length) (hb : allPt L L.length = false) : putE L = 10 ∧ putS L = ⟨#[]⟩ := by
  have : putE L = 10 := by unfold putE; rw [if_neg h, hb]; rfl
  exact ⟨this, by unfold putS; rw [this]; rfl⟩
theorem put_good {L : List Int} (h : ¬ 16384 < L.length) (hb : allPt L L.length = true) : putE L = 0 ∧ putS L = mkB (encs L L.length) := by
  have : putE L = 0 := by unfold putE; rw [if_neg h, hb]; rfl
  exact ⟨this, by unfold putS; rw [if_pos this]⟩

end Go.Proofs.YtmkkckhfdafjnaaGreatDoor
