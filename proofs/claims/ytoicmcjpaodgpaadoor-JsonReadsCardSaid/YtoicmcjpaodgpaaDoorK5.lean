import Derived.Test.YtoicmcjpaodgpaaDoorK4
import Derived.Laws.AppendOwn
import Derived.Below
import Derived.Deep.LoopGhost
import Derived.Deep.RegionLaw
import Derived.Lib.Hide
import Derived.Outline
import Derived.WalkKit
import Derived.WalkLawsBesides
import Derived.WalkSpells
import Derived.Lib.AppendStr
import Derived.Lib.ItoaLen
import Derived.Maps.AppendAt
import Derived.OwnWalk
import Derived.Test.YtoicmcjpaodgpaaDoorShelf
import Derived.Shelf.Vars
/- Layer 3: Plain of both, the code's Same, spoil. -/
namespace Go.Proofs.YtoicmcjpaodgpaaDoor
open Go.RowKit Go.Maps
def enB (c : CR) : Bool := decide (c.k = 4) || decide (c.k = 5)
def plnB (g : Nat → CR) (n : Nat) : Bool := !((List.range n).any fun i => enB (g i)) && ckC g n
theorem pln_no {g : Nat → CR} {n i : Nat} (hi : i < n) (h : enB (g i) = true) : plnB g n = false := by
  unfold plnB
  rw [show ((List.range n).any fun i => enB (g i)) = true from List.any_eq_true.2 ⟨i, List.mem_range.2 hi, h⟩]
  rfl
theorem pln_yes {g : Nat → CR} {n : Nat} (h : ∀ j, j < n → enB (g j) = false) : plnB g n = ckC g n := by
  unfold plnB
  rw [show ((List.range n).any fun i => enB (g i)) = false from by
    rw [List.any_eq_false]
    intro j hj
    rw [h j (List.mem_range.1 hj)]; simp]
  rfl
theorem en_cases (c : CR) : (enB c = true ∧ c.k = 4) ∨ (enB c = true ∧ c.k = 5) ∨ (enB c = false ∧ c.k ≠ 4 ∧ c.k ≠ 5) := by
  unfold enB
  by_cases h4 : c.k = 4
  · exact .inl ⟨by simp [h4], h4⟩
  · by_cases h5 : c.k = 5
    · exact .inr (.inl ⟨by simp [h5], h5⟩)
    · exact .inr (.inr ⟨by simp [h4, h5], h4, h5⟩)
set_option maxRecDepth 20000 in
set_option maxHeartbeats 1000000 in
theorem plain_any (a : Option Addr) (n cap : Nat) (g : Nat → CR) (w : World) (hv : CV w a n g) (hs : Sm n g) : Calls Tryd.prog 17 #[.slice a n cap] w fun e w' => e = .returned (.bool (plnB g n)) ∧ Below w.heap.size w w' := by
  have HM := Lib.hid (fun W (hV : CV W a n g) => cCheck_any a n cap g W hV hs.cw)
  have hnm := hs.le
  unfold maxLen at hnm
  obtain ⟨x, hx⟩ : ∃ x, x = plnB g n := ⟨_, rfl⟩
  rw [← hx]
  replace hx := Lib.hid hx
  have HV := Lib.hid hv
  clear hv hs
  go_enter Tryd.func17, Tryd.ntmps17
  go_wp2_with fail
  go_loopw [7] (fun v7 wr => ∃ i : Nat, i ≤ n ∧ v7 = .int .i64 i ∧ Hid (∀ j, j < i → enB (g j) = false) ∧ Hid (Below w.heap.size w wr)) (fun v7 _ => n - (intOf v7).toNat)
  case atStart => exact ⟨0, Nat.zero_le _, rfl, Lib.hid (fun j hj => by omega), Lib.hid (Below.refl _ _)⟩
  case round =>
    obtain ⟨i, hi, rfl, HN, HB⟩ := hrel
    by_cases h1 : i < n
    · obtain ⟨b, off, rfl, _, c0, c1, c2, c3, c4⟩ := (HV.out.below HB.out) i h1
      have hg1 : (i : Int) < n := by omega
      have hg0 : (0 : Int) ≤ i := by omega
      have hec := en_cases (g i)
      have HBAD : Hid (enB (g i) = true → x = false) := Lib.hid (fun h => hx.out.trans (pln_no h1 h))
      have HOK : Hid (enB (g i) = false → ∀ j, j < i + 1 → enB (g j) = false) := Lib.hid (fun h j hj => by
        by_cases e : j = i
        · subst e; exact h
        · exact HN.out j (by omega))
      obtain ⟨c, hc⟩ : ∃ c, c = g i := ⟨_, rfl⟩
      rw [← hc] at c0 c1 c2 c3 c4 hec HBAD HOK
      have HB2 : Hid (∀ o, Below w.heap.size w (wr.alloc o)) := Lib.hid (fun o => HB.out.alloc HB.out.size o)
      rcases hec with ⟨he, h4⟩ | ⟨he, h5⟩ | ⟨he, h4, h5⟩
      · have HX := Lib.hid (HBAD.out he)
        have g4 : ((c.k : Int) == 4) = true := by rw [beq_iff_eq]; omega
        clear he h4 HBAD HOK HN hc
        go_wp2_with fail
        go_ret
        exact ⟨ret_bool HX.out.symm, HB2.out _⟩
      · have HX := Lib.hid (HBAD.out he)
        have g4 : ((c.k : Int) == 4) = false := by rw [beq_eq_false_iff_ne]; omega
        have g5 : ((c.k : Int) == 5) = true := by rw [beq_iff_eq]; omega
        clear he h5 HBAD HOK HN hc
        go_wp2_with fail
        go_ret
        exact ⟨ret_bool HX.out.symm, HB2.out _⟩
      · have HX := Lib.hid (HOK.out he)
        have g4 : ((c.k : Int) == 4) = false := by rw [beq_eq_false_iff_ne]; omega
        have g5 : ((c.k : Int) == 5) = false := by rw [beq_eq_false_iff_ne]; omega
        clear he h4 h5 HBAD HOK HN hc
        go_wp2_with fail
        go_roundw
        case rel => exact ⟨i + 1, by omega, by go_num, HX, Lib.hid (HB2.out _)⟩
        case measure => simp [intOf]; omega
    · have e1 : i = n := by omega
      subst e1
      have hge : ¬ ((i : Int) < i) := by omega
      have HX : Hid (x = ckC g i) := Lib.hid (by rw [hx.out]; exact pln_yes HN.out)
      clear HN
      cases hck : ckC g i with
      | true =>
        rw [hck] at HM HX
        unfold eC at HM
        rw [if_pos rfl] at HM
        clear hck
        go_wp2_with fail
        with_reducible refine (HM.out wr (HV.out.below HB.out)).mono ?_
        rintro e w1 ⟨rfl, b1⟩
        have B1 := Lib.hid (HB.out.trans (b1.mono HB.out.size))
        clear b1 HM
        go_wp2_with fail
        go_ret
        exact ⟨ret_bool HX.out.symm, B1.out⟩
      | false =>
        rw [hck] at HM HX
        unfold eC at HM
        rw [if_neg (by decide)] at HM
        clear hck
        go_wp2_with fail
        with_reducible refine (HM.out wr (HV.out.below HB.out)).mono ?_
        rintro e w1 ⟨rfl, b1⟩
        have B1 := Lib.hid (HB.out.trans (b1.mono HB.out.size))
        clear b1 HM
        go_wp2_with fail
        go_ret
        exact ⟨ret_bool HX.out.symm, B1.out⟩
theorem grown_set' (W : World) (q o : Nat) (v : Value) : W.grownBy (W.setCell ⟨q, o, none⟩ v) (some q) :=
  ⟨rfl, rfl, rfl, by simp [World.setCell], fun i _ hne => RowKit.Below.heap_setCell _ _ _ _ (fun e => hne (by rw [show i = q from e]))⟩
theorem own_set4 {w : World} {B q n cap i : Nat} {xs : List Value} (h : w.ownsRow B 42 5 (.slice (some ⟨q, 0, none⟩) n cap) n xs) (hi : i < n) (v : Value) :
    (w.setCell ⟨q, i * 5 + 4, none⟩ v).ownsRow B 42 5 (.slice (some ⟨q, 0, none⟩) n cap) n (xs.set (i * 5 + 4) v) := by
  refine ⟨by rw [List.length_set]; exact h.1, ?_⟩
  rcases h.2 with ⟨h', _⟩ | ⟨g', cap', cur, h', hb, hg, h1, h2, h3, h4⟩
  · simp at h'
  · simp only [Value.slice.injEq, Option.some.injEq, Addr.mk.injEq, and_true, true_and] at h'
    obtain ⟨rfl, rfl⟩ := h'
    refine .inr ⟨q, cap, cur.setIfInBounds (i * 5 + 4) v, rfl, hb, ?_, h1, h2, by simpa using h3, ?_⟩
    · simp [World.setCell, Array.getElem?_modify, hg]
    · rw [Array.toList_setIfInBounds, List.take_set, h4]
theorem own_cell4 {w : World} {B q n cap i : Nat} {xs : List Value} (h : w.ownsRow B 42 5 (.slice (some ⟨q, 0, none⟩) n cap) n xs) (hi : i < n) : (∃ x, w.cell? ⟨q, i * 5 + 4, none⟩ = some x) ∧ w.frozen? ⟨q, i * 5 + 4, none⟩ = false := by
  refine ⟨?_, ?_⟩
  · rw [h.cellAt _ (by have := h.1; omega)]
    exact ⟨_, List.getElem?_eq_getElem (by have := h.1; omega)⟩
  · rcases h.2 with ⟨h', _⟩ | ⟨g', cap', cur, h', hb, hg, h1, h2, h3, h4⟩
    · simp at h'
    · simp only [Value.slice.injEq, Option.some.injEq, Addr.mk.injEq, and_true, true_and] at h'
      obtain ⟨rfl, rfl⟩ := h'
      simp [World.frozen?, hg]
end Go.Proofs.YtoicmcjpaodgpaaDoor
/- Layer 31, ServeWrites: a text quoted (plain), and appends of bytes. -/
namespace Go.Proofs.YtoicmcjpaodgpaaDoor
open Go.RowKit
def hexI (x : Int) : Int := if x < 10 then 48 + x else 87 + x
def shortI (x : Int) : Int := if x = 34 then 34 else if x = 92 then 92 else if x = 8 then 98 else if x = 9 then 116 else if x = 10 then 110 else if x = 12 then 102 else if x = 13 then 114 else 0
def escI (x : Int) : List Int := if shortI x ≠ 0 then [92, shortI x] else if x < 32 then [92, 117, 48, 48, hexI (x / 16), hexI (x % 16)] else [x]
def quL (s : ByteArray) : Nat → List Int
  | 0 => [34]
  | k + 1 => quL s k ++ escI (byt s k)
theorem esc_len (x : Int) : (escI x).length ≤ 6 := by unfold escI; split <;> (try split) <;> simp
theorem quL_len (s : ByteArray) (k : Nat) : (quL s k).length ≤ 6 * k + 1 := by
  induction k with
  | zero => exact Nat.le_refl _
  | succ k ih => unfold quL; rw [List.length_append]; have := esc_len (byt s k); omega
theorem short_range (x : Int) : 0 ≤ shortI x ∧ shortI x < 256 := by unfold shortI; repeat' split <;> (try omega)
theorem esc_range (x : Int) (h0 : 0 ≤ x) (h1 : x < 256) : ∀ y ∈ escI x, 0 ≤ y ∧ y < 256 := by
  have hs := short_range x
  unfold escI
  split
  · intro y hy; simp at hy; rcases hy with rfl | rfl <;> omega
  · split
    · intro y hy
      simp at hy
      unfold hexI at hy
      rcases hy with rfl | rfl | rfl | rfl | rfl <;> (first | omega | (split <;> omega))
    · intro y hy; simp at hy; omega
theorem quL_range (s : ByteArray) (k : Nat) : ∀ y ∈ quL s k, 0 ≤ y ∧ y < 256 := by
  induction k with
  | zero => intro y hy; simp [quL] at hy; omega
  | succ k ih =>
    intro y hy
    unfold quL at hy
    rcases List.mem_append.1 hy with hy | hy
    · exact ih y hy
    · exact esc_range _ (byt_range s k).1 (byt_range s k).2 y hy
/-- A text, quoted. -/
def quT (s : ByteArray) : ByteArray := mkB (quL s s.size ++ [34])
theorem qu_end (s : ByteArray) : ∀ y ∈ quL s s.size ++ [34], 0 ≤ y ∧ y < 256 := by
  intro y hy
  rcases List.mem_append.1 hy with hy | hy
  · exact quL_range s _ y hy
  · simp at hy; omega
theorem infoB : ∃ i, Tryd.prog.info? 5 = some i ∧ i.zero = some (.int .u8 0) ∧ i.size = 1 ∧ i.bytes = 1 := by
  have h := Tryd.typeInfo5 default
  unfold typeInfo at h
  cases hq : Tryd.prog.info? 5 with
  | none => simp [hq] at h
  | some i =>
    simp [hq] at h
    exact ⟨i, rfl, by rw [h]; rfl, by rw [h]; rfl, by rw [h]; rfl⟩
def BO (w0 w : World) (v : Value) (L : List Int) : Prop := w.ownsRow w0.heap.size 5 1 v L.length (L.map (Value.int .u8)) ∧ Below w0.heap.size w0 w
theorem BO.nil (w : World) : BO w w (.slice none 0 0) [] := ⟨World.ownsRow_nil _ _ _ _, Below.refl _ _⟩
theorem BO.alloc {w0 w : World} {v : Value} {L : List Int} (h : BO w0 w v L) (o : Obj) : BO w0 (w.alloc o) v L := ⟨h.1.alloc o, h.2.alloc h.2.size o⟩
theorem BO.drew {w0 w : World} {v : Value} {L : List Int} (h : BO w0 w v L) : BO w0 w.drew v L := ⟨h.1.drew, h.2.drew⟩
theorem BO.slice {w0 w : World} {v : Value} {L : List Int} (h : BO w0 w v L) : ∃ ad c, v = .slice ad L.length c := by
  rcases h.1.2 with ⟨rfl, hn⟩ | ⟨g, cap, cur, rfl, _⟩
  · exact ⟨none, 0, by rw [hn]⟩
  · exact ⟨_, _, rfl⟩
theorem news_bytes {w : World} {b : Nat} {M : List Int} (hb : w.heap[b]? = some (.cells (M.map (Value.int .u8)).toArray 5)) : ∀ j u, (M.map (Value.int .u8))[j]? = some u → w.cell? ((⟨b, 0, none⟩ : Addr).add j) = some u := fun j u hj => by
  rw [Addr.add_lit]
  simp [World.cell?, hb]
  simpa using hj
theorem bo_run {w0 w : World} {v : Value} {L M : List Int} {b : Nat} (ty : TypeId) (hO : BO w0 w v L) (hb : w.heap[b]? = some (.cells (M.map (Value.int .u8)).toArray 5)) (hL : L.length + M.length ≤ 1000000000) :
    ∃ v' w', (Builtin.append_ #[44, 44] ty #[v, .slice (some ⟨b, 0, none⟩) M.length M.length]).run Tryd.prog w = .ok v' w' ∧ BO w0 w' v' (L ++ M) := by
  obtain ⟨i, h2, h3, h4, h5⟩ := infoB
  obtain ⟨v', w', hrun, r1, r2, _⟩ := run_append_own (P := Tryd.prog) (w := w) w0.heap.size 44 ty 5 i _ 1 1 Tryd.underlying44 h2 h3 h4 h5 rfl (by decide) v L.length (L.map (Value.int .u8)) hO.1 ⟨b, 0, none⟩ M.length M.length (M.map (Value.int .u8)) (by simp) (news_bytes hb) (by intro u hu; obtain ⟨x, _, rfl⟩ := List.mem_map.1 hu; rfl) (by unfold maxLen; omega) (by omega) hO.2.size
  refine ⟨v', w', hrun, ?_, hO.2.grown r2 hO.2.size (fun k hk => ?_)⟩
  · rw [List.length_append, List.map_append]; exact r1
  · rcases hO.1.2 with ⟨rfl, _⟩ | ⟨g, cap, cur, rfl, hg, _⟩
    · cases hk
    · simp only [Value.ownBlock, Option.some.injEq] at hk
      subst hk; exact hg
theorem app_bytes {ops : Array Oper} {rest : List Oper} {o : Oper} {a : Act} {w0 w : World} {Q : Exit → Act → World → Prop} (hgd : o.guard = none) (s x : Operand)
    (ho : o.op = .call { callee := .builtin .append, args := #[s, x], argTypes := #[44, 44] }) (v : Value) (L M : List Int) (b : Nat) (hs : a.eval s = v) (hx : a.eval x = .slice (some ⟨b, 0, none⟩) M.length M.length) (hO : BO w0 w v L) (hb : w.heap[b]? = some (.cells (M.map (Value.int .u8)).toArray 5)) (hL : L.length + M.length ≤ 1000000000)
    (h : ∀ v' w', BO w0 w' v' (L ++ M) → wpList Tryd.prog ops Q rest (a.put o.dst v') w') : wpList Tryd.prog ops Q (o :: rest) a w := by
  obtain ⟨v', w', hrun, hB⟩ := bo_run o.type hO hb hL
  refine wpList_plain hgd fun K hK => ?_
  unfold Oper.wp
  simp [execOp, ho, resolve, invoke, builtin, hs, hx, hrun, Result.andThen]
  exact hK _ _ (h v' w' hB)
theorem step_bytes {ops : Array Oper} {o : Oper} {a : Act} {w0 w : World} {K : Act → World → Prop} {Q : Exit → Act → World → Prop} {E : Prop} (hgd : o.guard = none) (s x : Operand)
    (ho : o.op = .call { callee := .builtin .append, args := #[s, x], argTypes := #[44, 44] }) (v : Value) (L M : List Int) (b : Nat) (hs : a.eval s = v) (hx : a.eval x = .slice (some ⟨b, 0, none⟩) M.length M.length) (hO : BO w0 w v L) (hb : w.heap[b]? = some (.cells (M.map (Value.int .u8)).toArray 5)) (hL : L.length + M.length ≤ 1000000000)
    (hK : ∀ v' w', BO w0 w' v' (L ++ M) → K (a.put o.dst v') w') : if Region.wanted o (yielded ops a.tmps) = true then Oper.wp Tryd.prog o a w K Q else E := by
  have hw : Region.wanted o (yielded ops a.tmps) = true := by simp [Region.wanted, hgd]
  rw [if_pos hw]
  obtain ⟨v', w', hrun, hB⟩ := bo_run o.type hO hb hL
  unfold Oper.wp
  simp [execOp, ho, resolve, invoke, builtin, hs, hx, hrun, Result.andThen]
  exact hK v' w' hB
end Go.Proofs.YtoicmcjpaodgpaaDoor
/- Layer 31, ServeWrites: a text quoted, by the program and by the document. -/
namespace Go.Proofs.YtoicmcjpaodgpaaDoor
open Go.RowKit
set_option maxRecDepth 20000 in
theorem short_any (x : Int) (w : World) : Calls Tryd.prog 30 #[.int .u8 x] w fun e w' => e = .returned (.int .u8 (shortI x)) ∧ w' = w := by
  by_cases h1 : x = 34
  · subst h1; go_enter Tryd.func30, Tryd.ntmps30; go_wp2_with fail; go_ret; exact ⟨rfl, rfl⟩
  by_cases h2 : x = 92
  · subst h2; go_enter Tryd.func30, Tryd.ntmps30; go_wp2_with fail; go_ret; exact ⟨rfl, rfl⟩
  by_cases h3 : x = 8
  · subst h3; go_enter Tryd.func30, Tryd.ntmps30; go_wp2_with fail; go_ret; exact ⟨rfl, rfl⟩
  by_cases h4 : x = 9
  · subst h4; go_enter Tryd.func30, Tryd.ntmps30; go_wp2_with fail; go_ret; exact ⟨rfl, rfl⟩
  by_cases h5 : x = 10
  · subst h5; go_enter Tryd.func30, Tryd.ntmps30; go_wp2_with fail; go_ret; exact ⟨rfl, rfl⟩
  by_cases h6 : x = 12
  · subst h6; go_enter Tryd.func30, Tryd.ntmps30; go_wp2_with fail; go_ret; exact ⟨rfl, rfl⟩
  by_cases h7 : x = 13
  · subst h7; go_enter Tryd.func30, Tryd.ntmps30; go_wp2_with fail; go_ret; exact ⟨rfl, rfl⟩
  have HX : Hid (shortI x = 0) := Lib.hid (by unfold shortI; rw [if_neg h1, if_neg h2, if_neg h3, if_neg h4, if_neg h5, if_neg h6, if_neg h7])
  have g1 : (x == 34) = false := by rw [beq_eq_false_iff_ne]; exact h1
  have g2 : (x == 92) = false := by rw [beq_eq_false_iff_ne]; exact h2
  have g3 : (x == 8) = false := by rw [beq_eq_false_iff_ne]; exact h3
  have g4 : (x == 9) = false := by rw [beq_eq_false_iff_ne]; exact h4
  have g5 : (x == 10) = false := by rw [beq_eq_false_iff_ne]; exact h5
  have g6 : (x == 12) = false := by rw [beq_eq_false_iff_ne]; exact h6
  have g7 : (x == 13) = false := by rw [beq_eq_false_iff_ne]; exact h7
  clear h1 h2 h3 h4 h5 h6 h7
  go_enter Tryd.func30, Tryd.ntmps30
  go_wp2_with fail
  go_ret
  exact ⟨by rw [HX.out]; rfl, rfl⟩
theorem byt_nat {s : ByteArray} {i : Nat} (h : i < s.size) : byt s i = (s[i].toNat : Int) := by unfold byt; rw [dif_pos h]
theorem esc_short {x : Int} (h : shortI x ≠ 0) : escI x = [92, shortI x] := by unfold escI; rw [if_pos h]
theorem esc_low {x : Int} (h : shortI x = 0) (h2 : x < 32) : escI x = [92, 117, 48, 48, hexI (x / 16), hexI (x % 16)] := by unfold escI; rw [if_neg (by simpa using h), if_pos h2]
theorem esc_own {x : Int} (h : shortI x = 0) (h2 : ¬ x < 32) : escI x = [x] := by unfold escI; rw [if_neg (by simpa using h), if_neg h2]
theorem andF (x : Int) (h0 : 0 ≤ x) (h1 : x < 256) : bits BinOp.and IntKind.u8 x 15 = x % 16 := by
  have h : ∀ n : Fin 256, bits BinOp.and IntKind.u8 (n.val : Int) 15 = (n.val : Int) % 16 := by decide +kernel
  have := h ⟨x.toNat, by omega⟩
  rw [show ((⟨x.toNat, by omega⟩ : Fin 256).val : Int) = x by simp; omega] at this
  exact this
theorem hexL_at (n : Int) (h0 : 0 ≤ n) (h : n < 16) (w : World) (k : IntKind) : (Instr.index 9 (.string ⟨#[48, 49, 50, 51, 52, 53, 54, 55, 56, 57, 97, 98, 99, 100, 101, 102]⟩) (.int k n)).run Tryd.prog w = .ok (.int .u8 (hexI n)) w := by
  rw [run_index_string _ _ _ _ _ Tryd.underlying9]
  rcases (show n = 0 ∨ n = 1 ∨ n = 2 ∨ n = 3 ∨ n = 4 ∨ n = 5 ∨ n = 6 ∨ n = 7 ∨ n = 8 ∨ n = 9 ∨ n = 10 ∨ n = 11 ∨ n = 12 ∨ n = 13 ∨ n = 14 ∨ n = 15 by omega) with rfl | rfl | rfl | rfl | rfl | rfl | rfl | rfl | rfl | rfl | rfl | rfl | rfl | rfl | rfl | rfl <;> rfl
set_option maxRecDepth 20000 in
set_option maxHeartbeats 2000000 in
theorem jquote_any (s : ByteArray) (w : World) (hs : s.size ≤ 100000000) : Calls Tryd.prog 20 #[.slice none 0 0, .string s] w fun e w' => ∃ v, e = .returned v ∧ BO w w' v (quL s s.size ++ [34]) := by
  have hs1 : (s.size : Int) ≤ 100000000 := by omega
  go_enter Tryd.func20, Tryd.ntmps20
  go_wp2_with (at_builtin; refine app_bytes rfl (.tmp 8) (.tmp 9) rfl (.slice none 0 0) [] [34] w.heap.size (by simp [Act.eval, Act.put]) (by simp [Act.eval, Act.put]) ((BO.nil w).alloc _) (heap_alloc_new _ _) (by simp) ?_; intro v1 w1 b1; have B1 := Lib.hid b1; clear b1)
  go_loopw [0, 5, 6, 7] (fun v0 v5 _ _ wr => ∃ (i : Nat) (v : Value), i ≤ s.size ∧ v5 = .int .i64 i ∧ v = v0 ∧ Hid (BO w wr v (quL s i))) (fun _ v5 _ _ _ => s.size - (intOf v5).toNat)
  case atStart => exact ⟨0, _, Nat.zero_le _, rfl, rfl, B1⟩
  case round =>
    obtain ⟨i, v, hi, rfl, rfl, HB⟩ := hrel
    have HL := Lib.hid (quL_len s i)
    by_cases hlt : i < s.size
    · have hlt' : (i : Int) < s.size := by omega
      have hge : (0 : Int) ≤ i := by omega
      have HQ : Hid (quL s (i + 1) = quL s i ++ escI (byt s i)) := Lib.hid rfl
      rw [byt_nat hlt] at HQ
      have hx1 := UInt8.toNat_lt s[i]
      go_wp2_with fail
      obtain ⟨x, hx⟩ : ∃ x : Int, x = (s[i].toNat : Int) := ⟨_, rfl⟩
      rw [← hx] at HQ ⊢
      have hx0 : 0 ≤ x := by omega
      have hx2 : x < 256 := by omega
      clear hx hx1
      refine (short_any x wr).mono ?_
      rintro e w2 ⟨rfl, h2⟩
      obtain rfl : wr = w2 := h2.symm
      obtain ⟨y, hy⟩ : ∃ y, y = shortI x := ⟨_, rfl⟩
      rw [← hy]
      by_cases hy0 : y = 0
      · subst hy0
        by_cases hlo : x < 32
        · rw [esc_low hy.symm hlo] at HQ
          clear hy
          have HBD := Lib.hid HB.out.drew
          have i1 := fun W => hexL_at (x / 16) (by omega) (by omega) W .u8
          have i2 := fun W => hexL_at (x % 16) (by omega) (by omega) W .u8
          have i3 := andF x hx0 hx2
          go_wp2_with fail
          go_region_law (first
            | (refine step_bytes rfl (.tmp 36) (.tmp 43) rfl v (quL s i) [92, 117, 48, 48, hexI (x / 16), hexI (x % 16)] wr.heap.size (by simp [Act.eval, Act.put]) (by simp [Act.eval, Act.put]) (HBD.out.alloc _) (heap_alloc_new _ _) (by have := HL.out; simp; omega) ?_; intro v2 w2 b2; rw [← HQ.out] at b2; have B2 := Lib.hid b2; clear b2))
          all_goals
            go_wp2_with fail
            go_roundw
            case rel => exact ⟨i + 1, _, by omega, by go_num, rfl, B2⟩
            case measure => simp [intOf]; omega
        · rw [esc_own hy.symm hlo] at HQ
          clear hy
          go_wp2_with (at_builtin; refine app_bytes rfl (.tmp 22) (.tmp 24) rfl v (quL s i) [x] wr.heap.size (by simp [Act.eval, Act.put]) (by simp [Act.eval, Act.put]) (HB.out.alloc _) (heap_alloc_new _ _) (by have := HL.out; simp; omega) ?_; intro v2 w2 b2; rw [← HQ.out] at b2; have B2 := Lib.hid b2; clear b2)
          go_roundw
          case rel => exact ⟨i + 1, _, by omega, by go_num, rfl, B2⟩
          case measure => simp [intOf]; omega
      · rw [esc_short (by rw [← hy]; exact hy0), ← hy] at HQ
        have g0 : (y != 0) = true := by simpa using hy0
        clear hy hy0
        go_wp2_with (at_builtin; refine app_bytes rfl (.tmp 29) (.tmp 31) rfl v (quL s i) [92, y] wr.heap.size (by simp [Act.eval, Act.put]) (by simp [Act.eval, Act.put]) (HB.out.alloc _) (heap_alloc_new _ _) (by have := HL.out; simp; omega) ?_; intro v2 w2 b2; rw [← HQ.out] at b2; have B2 := Lib.hid b2; clear b2)
        go_roundw
        case rel => exact ⟨i + 1, _, by omega, by go_num, rfl, B2⟩
        case measure => simp [intOf]; omega
    · have him : i = s.size := by omega
      subst him
      have hz : ¬ ((s.size : Int) < (s.size : Int)) := by omega
      go_wp2_with (at_builtin; refine app_bytes rfl (.tmp 45) (.tmp 46) rfl v (quL s s.size) [34] wr.heap.size (by simp [Act.eval, Act.put]) (by simp [Act.eval, Act.put]) (HB.out.alloc _) (heap_alloc_new _ _) (by have := HL.out; simp; omega) ?_; intro v2 w2 b2; have B2 := Lib.hid b2; clear b2)
      go_ret
      exact ⟨_, rfl, B2.out⟩
end Go.Proofs.YtoicmcjpaodgpaaDoor
/- Layer 31, ServeWrites: the document's Quoted. -/
namespace Go.Proofs.YtoicmcjpaodgpaaDoor
open Go.RowKit
theorem bo_lit (w : World) (x : Int) : BO w (w.alloc (.cells #[.int .u8 x] 5)) (.slice (some ⟨w.heap.size, 0, none⟩) 1 1) [x] :=
  ⟨⟨rfl, .inr ⟨w.heap.size, 1, #[.int .u8 x], rfl, Nat.le_refl _, heap_alloc_new w _, Nat.le_refl _, by unfold maxLen; omega, rfl, rfl⟩⟩, (Below.refl _ _).alloc (Nat.le_refl _) _⟩
theorem short_no {x : Int} (h1 : x ≠ 34) (h2 : x ≠ 92) (h3 : x ≠ 8) (h4 : x ≠ 9) (h5 : x ≠ 10) (h6 : x ≠ 12) (h7 : x ≠ 13) : shortI x = 0 := by unfold shortI; rw [if_neg h1, if_neg h2, if_neg h3, if_neg h4, if_neg h5, if_neg h6, if_neg h7]
set_option maxRecDepth 20000 in
set_option maxHeartbeats 4000000 in
theorem rQuoted_any (s : ByteArray) (w : World) (hs : s.size ≤ 100000000) : Calls Tryd.prog 26 #[.string s] w fun e w' => e = .returned (.string (quT s)) ∧ Below w.heap.size w w' := by
  have hs1 : (s.size : Int) ≤ 100000000 := by omega
  have B0 := Lib.hid (bo_lit w 34)
  go_enter Tryd.func26, Tryd.ntmps26
  go_wp2_with fail
  go_loopw [3, 5, 6] (fun v3 v5 _ wr => ∃ (i : Nat) (v : Value), i ≤ s.size ∧ v5 = .int .i64 i ∧ v = v3 ∧ Hid (BO w wr v (quL s i))) (fun _ v5 _ _ => s.size - (intOf v5).toNat)
  case atStart => exact ⟨0, _, Nat.zero_le _, rfl, rfl, B0⟩
  case round =>
    obtain ⟨i, v, hi, rfl, rfl, HB⟩ := hrel
    have HL := Lib.hid (quL_len s i)
    by_cases hlt : i < s.size
    · have hlt' : (i : Int) < s.size := by omega
      have hge : (0 : Int) ≤ i := by omega
      have HQ : Hid (quL s (i + 1) = quL s i ++ escI (byt s i)) := Lib.hid rfl
      rw [byt_nat hlt] at HQ
      have hx1 := UInt8.toNat_lt s[i]
      obtain ⟨x, hx⟩ : ∃ x : Int, x = (s[i].toNat : Int) := ⟨_, rfl⟩
      have hxs := hx.symm
      rw [← hx] at HQ
      have hx0 : 0 ≤ x := by omega
      have hx2 : x < 256 := by omega
      clear hx hx1
      by_cases c34 : x = 34
      · subst c34
        replace HQ : Hid (quL s (i + 1) = quL s i ++ [92, 34]) := Lib.hid HQ.out
        go_wp2_with (at_builtin; refine app_bytes rfl (.tmp 28) (.tmp 30) rfl v (quL s i) [92, 34] wr.heap.size (by simp [Act.eval, Act.put]) (by simp [Act.eval, Act.put]) (HB.out.alloc _) (heap_alloc_new _ _) (by have := HL.out; simp; omega) ?_; intro v2 w2 b2; rw [← HQ.out] at b2; have B2 := Lib.hid b2; clear b2)
        go_roundw
        case rel => exact ⟨i + 1, _, by omega, by go_num, rfl, B2⟩
        case measure => simp [intOf]; omega
      by_cases c92 : x = 92
      · subst c92
        replace HQ : Hid (quL s (i + 1) = quL s i ++ [92, 92]) := Lib.hid HQ.out
        go_wp2_with (at_builtin; refine app_bytes rfl (.tmp 28) (.tmp 30) rfl v (quL s i) [92, 92] wr.heap.size (by simp [Act.eval, Act.put]) (by simp [Act.eval, Act.put]) (HB.out.alloc _) (heap_alloc_new _ _) (by have := HL.out; simp; omega) ?_; intro v2 w2 b2; rw [← HQ.out] at b2; have B2 := Lib.hid b2; clear b2)
        go_roundw
        case rel => exact ⟨i + 1, _, by omega, by go_num, rfl, B2⟩
        case measure => simp [intOf]; omega
      by_cases c8 : x = 8
      · subst c8
        replace HQ : Hid (quL s (i + 1) = quL s i ++ [92, 98]) := Lib.hid HQ.out
        go_wp2_with (at_builtin; refine app_bytes rfl (.tmp 43) (.tmp 48) rfl v (quL s i) [92, 98] wr.heap.size (by simp [Act.eval, Act.put]) (by simp [Act.eval, Act.put]) (HB.out.alloc _) (heap_alloc_new _ _) (by have := HL.out; simp; omega) ?_; intro v2 w2 b2; rw [← HQ.out] at b2; have B2 := Lib.hid b2; clear b2)
        go_roundw
        case rel => exact ⟨i + 1, _, by omega, by go_num, rfl, B2⟩
        case measure => simp [intOf]; omega
      by_cases c9 : x = 9
      · subst c9
        replace HQ : Hid (quL s (i + 1) = quL s i ++ [92, 116]) := Lib.hid HQ.out
        go_wp2_with (at_builtin; refine app_bytes rfl (.tmp 43) (.tmp 48) rfl v (quL s i) [92, 116] wr.heap.size (by simp [Act.eval, Act.put]) (by simp [Act.eval, Act.put]) (HB.out.alloc _) (heap_alloc_new _ _) (by have := HL.out; simp; omega) ?_; intro v2 w2 b2; rw [← HQ.out] at b2; have B2 := Lib.hid b2; clear b2)
        go_roundw
        case rel => exact ⟨i + 1, _, by omega, by go_num, rfl, B2⟩
        case measure => simp [intOf]; omega
      by_cases c10 : x = 10
      · subst c10
        replace HQ : Hid (quL s (i + 1) = quL s i ++ [92, 110]) := Lib.hid HQ.out
        go_wp2_with (at_builtin; refine app_bytes rfl (.tmp 43) (.tmp 48) rfl v (quL s i) [92, 110] wr.heap.size (by simp [Act.eval, Act.put]) (by simp [Act.eval, Act.put]) (HB.out.alloc _) (heap_alloc_new _ _) (by have := HL.out; simp; omega) ?_; intro v2 w2 b2; rw [← HQ.out] at b2; have B2 := Lib.hid b2; clear b2)
        go_roundw
        case rel => exact ⟨i + 1, _, by omega, by go_num, rfl, B2⟩
        case measure => simp [intOf]; omega
      by_cases c12 : x = 12
      · subst c12
        replace HQ : Hid (quL s (i + 1) = quL s i ++ [92, 102]) := Lib.hid HQ.out
        go_wp2_with (at_builtin; refine app_bytes rfl (.tmp 43) (.tmp 48) rfl v (quL s i) [92, 102] wr.heap.size (by simp [Act.eval, Act.put]) (by simp [Act.eval, Act.put]) (HB.out.alloc _) (heap_alloc_new _ _) (by have := HL.out; simp; omega) ?_; intro v2 w2 b2; rw [← HQ.out] at b2; have B2 := Lib.hid b2; clear b2)
        go_roundw
        case rel => exact ⟨i + 1, _, by omega, by go_num, rfl, B2⟩
        case measure => simp [intOf]; omega
      by_cases c13 : x = 13
      · subst c13
        replace HQ : Hid (quL s (i + 1) = quL s i ++ [92, 114]) := Lib.hid HQ.out
        go_wp2_with (at_builtin; refine app_bytes rfl (.tmp 43) (.tmp 48) rfl v (quL s i) [92, 114] wr.heap.size (by simp [Act.eval, Act.put]) (by simp [Act.eval, Act.put]) (HB.out.alloc _) (heap_alloc_new _ _) (by have := HL.out; simp; omega) ?_; intro v2 w2 b2; rw [← HQ.out] at b2; have B2 := Lib.hid b2; clear b2)
        go_roundw
        case rel => exact ⟨i + 1, _, by omega, by go_num, rfl, B2⟩
        case measure => simp [intOf]; omega
      have HS := Lib.hid (short_no c34 c92 c8 c9 c10 c12 c13)
      have g1 : (x == 34) = false := by rw [beq_eq_false_iff_ne]; exact c34
      have g2 : (x == 92) = false := by rw [beq_eq_false_iff_ne]; exact c92
      by_cases hlo : x < 32
      · rw [esc_low HS.out hlo] at HQ
        have HBD := Lib.hid HB.out.drew
        have i1 := fun W => hexL_at (x / 16) (by omega) (by omega) W .u8
        have i2 := fun W => hexL_at (x % 16) (by omega) (by omega) W .u8
        have t1 : x.tdiv 16 = x / 16 := Int.tdiv_eq_ediv_of_nonneg hx0
        have t2 : x.tmod 16 = x % 16 := Int.tmod_eq_emod_of_nonneg hx0
        have t3 : IntKind.u8.wrap (x / 16) = x / 16 := by rw [IntKind.wrap_u8]; omega
        have t4 : IntKind.u8.wrap (x % 16) = x % 16 := by rw [IntKind.wrap_u8]; omega
        by_cases c11 : x = 11
        · have g3 : (x != 11) = false := by rw [c11]; rfl
          have g4 : 8 ≤ x := by omega
          have g5 : x ≤ 13 := by omega
          clear c11 c34 c92 c8 c9 c10 c12 c13
          go_wp2_with fail
          go_region_law (first
            | (refine step_bytes rfl (.tmp 53) (.tmp 60) rfl v (quL s i) [92, 117, 48, 48, hexI (x / 16), hexI (x % 16)] wr.heap.size (by simp [Act.eval, Act.put]) (by simp [Act.eval, Act.put]) (HBD.out.alloc _) (heap_alloc_new _ _) (by have := HL.out; simp; omega) ?_; intro v2 w2 b2; rw [← HQ.out] at b2; have B2 := Lib.hid b2; clear b2))
          all_goals
            go_wp2_with fail
            go_roundw
            case rel => exact ⟨i + 1, _, by omega, by go_num, rfl, B2⟩
            case measure => simp [intOf]; omega
        · by_cases c7 : x < 8
          · have g4 : ¬ 8 ≤ x := by omega
            clear c7 c11 c34 c92 c8 c9 c10 c12 c13
            go_wp2_with fail
            go_region_law (first
              | (refine step_bytes rfl (.tmp 53) (.tmp 60) rfl v (quL s i) [92, 117, 48, 48, hexI (x / 16), hexI (x % 16)] wr.heap.size (by simp [Act.eval, Act.put]) (by simp [Act.eval, Act.put]) (HBD.out.alloc _) (heap_alloc_new _ _) (by have := HL.out; simp; omega) ?_; intro v2 w2 b2; rw [← HQ.out] at b2; have B2 := Lib.hid b2; clear b2))
            all_goals
              go_wp2_with fail
              go_roundw
              case rel => exact ⟨i + 1, _, by omega, by go_num, rfl, B2⟩
              case measure => simp [intOf]; omega
          · have g4 : 8 ≤ x := by omega
            have g5 : ¬ x ≤ 13 := by omega
            clear c7 c11 c34 c92 c8 c9 c10 c12 c13
            go_wp2_with fail
            go_region_law (first
              | (refine step_bytes rfl (.tmp 53) (.tmp 60) rfl v (quL s i) [92, 117, 48, 48, hexI (x / 16), hexI (x % 16)] wr.heap.size (by simp [Act.eval, Act.put]) (by simp [Act.eval, Act.put]) (HBD.out.alloc _) (heap_alloc_new _ _) (by have := HL.out; simp; omega) ?_; intro v2 w2 b2; rw [← HQ.out] at b2; have B2 := Lib.hid b2; clear b2))
            all_goals
              go_wp2_with fail
              go_roundw
              case rel => exact ⟨i + 1, _, by omega, by go_num, rfl, B2⟩
              case measure => simp [intOf]; omega
      · rw [esc_own HS.out hlo] at HQ
        have g4 : 8 ≤ x := by omega
        have g5 : ¬ x ≤ 13 := by omega
        clear c34 c92 c8 c9 c10 c12 c13
        go_wp2_with (at_builtin; refine app_bytes rfl (.tmp 17) (.tmp 19) rfl v (quL s i) [x] wr.heap.size (by simp [Act.eval, Act.put]) (by simp [Act.eval, Act.put]) (HB.out.alloc _) (heap_alloc_new _ _) (by have := HL.out; simp; omega) ?_; intro v2 w2 b2; rw [← HQ.out] at b2; have B2 := Lib.hid b2; clear b2)
        go_roundw
        case rel => exact ⟨i + 1, _, by omega, by go_num, rfl, B2⟩
        case measure => simp [intOf]; omega
    · have him : i = s.size := by omega
      subst him
      have hz : ¬ ((s.size : Int) < (s.size : Int)) := by omega
      go_wp2_with (at_builtin; refine app_bytes rfl (.tmp 62) (.tmp 63) rfl v (quL s s.size) [34] wr.heap.size (by simp [Act.eval, Act.put]) (by simp [Act.eval, Act.put]) (HB.out.alloc _) (heap_alloc_new _ _) (by have := HL.out; simp; omega) ?_; intro v2 w2 b2; have hcv := conv_own b2.1 (qu_end s); have B2 := Lib.hid b2; clear b2)
      go_ret
      exact ⟨rfl, B2.out.2⟩
end Go.Proofs.YtoicmcjpaodgpaaDoor
/- Layer 4: bytes of texts as lists; what is appended to a row of bytes (with S0's BO). -/
namespace Go.Proofs.YtoicmcjpaodgpaaDoor
open Go.RowKit
def bI (s : ByteArray) : List Int := s.data.toList.map fun b => (b.toNat : Int)
theorem bI_len (s : ByteArray) : (bI s).length = s.size := by unfold bI; rw [List.length_map, Array.length_toList]; rfl
theorem bI_app (a b : ByteArray) : bI (a ++ b) = bI a ++ bI b := by
  unfold bI
  rw [show (a ++ b).data.toList = a.data.toList ++ b.data.toList by simp, List.map_append]
theorem bI_range (s : ByteArray) : ∀ y ∈ bI s, 0 ≤ y ∧ y < 256 := by
  intro y hy
  obtain ⟨b, _, rfl⟩ := List.mem_map.1 hy
  have := UInt8.toNat_lt b
  omega
theorem bI_mk {L : List Int} (h : ∀ y ∈ L, 0 ≤ y ∧ y < 256) : bI (mkB L) = L := by
  unfold bI mkB
  rw [List.map_map]
  conv => rhs; rw [← List.map_id L]
  apply List.map_congr_left
  intro x hx
  have := h x hx
  simp only [Function.comp, id]
  rw [UInt8.toNat_ofNat']
  omega
theorem mk_bI (s : ByteArray) : mkB (bI s) = s := by
  apply ByteArray.ext
  apply Array.toList_inj.1
  unfold mkB bI
  simp only [List.map_map]
  conv => rhs; rw [← List.map_id s.data.toList]
  apply List.map_congr_left
  intro x _
  simp
theorem bI_cells (s : ByteArray) : Lib.strCells s = (bI s).map (Value.int .u8) := by
  unfold Lib.strCells bI
  rw [List.map_map]
  rfl
theorem bI_qu (s : ByteArray) : bI (quT s) = quL s s.size ++ [34] := bI_mk (qu_end s)
theorem bo_str {w0 w : World} {v : Value} {L : List Int} (ty : TypeId) (hO : BO w0 w v L) (s : ByteArray) (hL : L.length + s.size ≤ 1000000000) :
    ∃ v' w', (Builtin.append_ #[44, 9] ty #[v, .string s]).run Tryd.prog w = .ok v' w' ∧ BO w0 w' v' (L ++ bI s) := by
  obtain ⟨i, h2, h3, h4, h5⟩ := infoB
  obtain ⟨v', w', hrun, r1, r2, _⟩ := Lib.run_append_own_string (P := Tryd.prog) w w0.heap.size 44 9 ty 5 i Tryd.underlying44 Tryd.underlying9 h2 h3 h4 h5 v L.length (L.map (Value.int .u8)) hO.1 s (by unfold maxLen; omega) (by omega) hO.2.size
  refine ⟨v', w', hrun, ?_, hO.2.grown r2 hO.2.size (fun k hk => ?_)⟩
  · rw [List.length_append, bI_len, List.map_append, ← bI_cells]; exact r1
  · rcases hO.1.2 with ⟨rfl, _⟩ | ⟨g, cap, cur, rfl, hg, _⟩
    · cases hk
    · simp only [Value.ownBlock, Option.some.injEq] at hk
      subst hk; exact hg
theorem app_text {ops : Array Oper} {rest : List Oper} {o : Oper} {a : Act} {w0 w : World} {Q : Exit → Act → World → Prop} (hgd : o.guard = none) (sl x : Operand)
    (ho : o.op = .call { callee := .builtin .append, args := #[sl, x], argTypes := #[44, 9] }) (v : Value) (L : List Int) (s : ByteArray) (hs : a.eval sl = v) (hx : a.eval x = .string s) (hO : BO w0 w v L) (hL : L.length + s.size ≤ 1000000000)
    (h : ∀ v' w', BO w0 w' v' (L ++ bI s) → wpList Tryd.prog ops Q rest (a.put o.dst v') w') : wpList Tryd.prog ops Q (o :: rest) a w := by
  obtain ⟨v', w', hrun, hB⟩ := bo_str o.type hO s hL
  refine wpList_plain hgd fun K hK => ?_
  unfold Oper.wp
  simp [execOp, ho, resolve, invoke, builtin, hs, hx, hrun, Result.andThen]
  exact hK _ _ (h v' w' hB)
theorem BO.up {w0 w w' : World} {v : Value} {L : List Int} (h : BO w0 w v L) (hb : Below w.heap.size w w') : BO w0 w' v L := ⟨own_below h.1 hb, h.2.trans (hb.mono h.2.size)⟩
/-! ### A value's JSON (plain) -/
def itT (n : Int) : ByteArray := ⟨(Lib.itoa n).toArray⟩
/-- The first k items of the value at p. -/
def jki (V : Nat → ByteArray) (g : Nat → CR) (n : Nat) (obj : Bool) (p : Nat) : Nat → ByteArray
  | 0 => ⟨#[]⟩
  | k + 1 => (if obj then (if 0 < k then jki V g n obj p k ++ ⟨#[44]⟩ else jki V g n obj p k) ++ (quT (g (bd g n (p + 1) k)).nm ++ ⟨#[58]⟩) else (if 0 < k then jki V g n obj p k ++ ⟨#[44]⟩ else jki V g n obj p k)) ++ V (bd g n (p + 1) k)
/-- The text of the value at p (plain values alone). -/
def jtx (g : Nat → CR) (n : Nat) : Nat → Nat → ByteArray
  | 0, _ => ⟨#[]⟩
  | f + 1, p =>
    if (g p).k = 0 then ⟨#[110, 117, 108, 108]⟩
    else if (g p).k = 1 then (if (g p).n = 1 then ⟨#[116, 114, 117, 101]⟩ else ⟨#[102, 97, 108, 115, 101]⟩)
    else if (g p).k = 2 then itT (g p).n
    else if (g p).k = 3 then quT (g p).tx
    else if (g p).k = 7 then ⟨#[123]⟩ ++ jki (jtx g n f) g n true p (g p).m.toNat ++ ⟨#[125]⟩
    else ⟨#[91]⟩ ++ jki (jtx g n f) g n false p (g p).m.toNat ++ ⟨#[93]⟩
end Go.Proofs.YtoicmcjpaodgpaaDoor
/- Layer 4: a text quoted behind a row; a comma. With what stays of other rows. -/
namespace Go.Proofs.YtoicmcjpaodgpaaDoor
open Go.RowKit
/-- What a row's growth leaves: all but the row, and where the row lies now. -/
def Kp (w : World) (v : Value) (w' : World) (v' : Value) : Prop := w.grownBy w' v.ownBlock ∧ (v'.ownBlock = v.ownBlock ∨ ∃ g, v'.ownBlock = some g ∧ w.heap.size ≤ g)
theorem Kp.refl (w : World) (v : Value) : Kp w v w v := ⟨World.grownBy.refl _ _, .inl rfl⟩
theorem Kp.trans {a b c : World} {v u x : Value} (h : Kp a v b u) (k : Kp b u c x) : Kp a v c x := by
  refine ⟨⟨k.1.os.trans h.1.os, k.1.tape.trans h.1.tape, k.1.output.trans h.1.output, Nat.le_trans h.1.size k.1.size, fun i hi hn => ?_⟩, ?_⟩
  · rw [k.1.block i (Nat.lt_of_lt_of_le hi h.1.size) ?_, h.1.block i hi hn]
    intro e
    rcases h.2 with h2 | ⟨g, h2, h3⟩
    · exact hn (e.trans h2)
    · rw [h2] at e
      have := Option.some.inj e
      omega
  · rcases k.2 with k2 | ⟨g, k2, k3⟩
    · rcases h.2 with h2 | ⟨g, h2, h3⟩
      · exact .inl (k2.trans h2)
      · exact .inr ⟨g, k2.trans h2, h3⟩
    · exact .inr ⟨g, k2, Nat.le_trans h.1.size k3⟩
theorem Kp.alloc {a b : World} {v u : Value} (h : Kp a v b u) (o : Obj) : Kp a v (b.alloc o) u := h.trans ⟨World.grownBy_alloc _ _ _, .inl rfl⟩
theorem Kp.drew {a b : World} {v u : Value} (h : Kp a v b u) : Kp a v b.drew u := ⟨⟨h.1.os, h.1.tape, h.1.output, h.1.size, h.1.block⟩, h.2⟩
theorem Kp.up {a b c : World} {v u : Value} (h : Kp a v b u) (k : Below b.heap.size b c) : Kp a v c u := h.trans ⟨⟨k.os, k.tape, k.output, k.size, fun i hi _ => k.block i hi⟩, .inl rfl⟩
theorem Kp.keep {a b : World} {v u : Value} (h : Kp a v b u) {k : Nat} {o : Obj} (hk : a.heap[k]? = some o) (hn : ∀ j, v.ownBlock = some j → j ≠ k) : b.heap[k]? = some o := by
  rw [h.1.block k (Array.getElem?_eq_some_iff.1 hk).1 (fun e => hn k e.symm rfl)]
  exact hk
theorem bo_run2 {w0 w : World} {v : Value} {L M : List Int} {b : Nat} (ty : TypeId) (hO : BO w0 w v L) (hb : w.heap[b]? = some (.cells (M.map (Value.int .u8)).toArray 5)) (hL : L.length + M.length ≤ 1000000000) :
    ∃ v' w', (Builtin.append_ #[44, 44] ty #[v, .slice (some ⟨b, 0, none⟩) M.length M.length]).run Tryd.prog w = .ok v' w' ∧ BO w0 w' v' (L ++ M) ∧ Kp w v w' v' := by
  obtain ⟨i, h2, h3, h4, h5⟩ := infoB
  obtain ⟨v', w', hrun, r1, r2, _, r3⟩ := run_append_own_at (P := Tryd.prog) (w := w) w0.heap.size 44 ty 5 i _ 1 1 Tryd.underlying44 h2 h3 h4 h5 rfl (by decide) v L.length (L.map (Value.int .u8)) hO.1 ⟨b, 0, none⟩ M.length M.length (M.map (Value.int .u8)) (by simp) (news_bytes hb) (by intro u hu; obtain ⟨x, _, rfl⟩ := List.mem_map.1 hu; rfl) (by unfold maxLen; omega) (by omega) hO.2.size
  refine ⟨v', w', hrun, ⟨?_, hO.2.grown r2 hO.2.size (fun k hk => ?_)⟩, r2, r3.elim .inl (fun h => .inr ⟨_, h, Nat.le_refl _⟩)⟩
  · rw [List.length_append, List.map_append]; exact r1
  · rcases hO.1.2 with ⟨rfl, _⟩ | ⟨g, cap, cur, rfl, hg, _⟩
    · cases hk
    · simp only [Value.ownBlock, Option.some.injEq] at hk
      subst hk; exact hg
theorem app_bytes2 {ops : Array Oper} {rest : List Oper} {o : Oper} {a : Act} {w0 w : World} {Q : Exit → Act → World → Prop} (hgd : o.guard = none) (s x : Operand)
    (ho : o.op = .call { callee := .builtin .append, args := #[s, x], argTypes := #[44, 44] }) (v : Value) (L M : List Int) (b : Nat) (hs : a.eval s = v) (hx : a.eval x = .slice (some ⟨b, 0, none⟩) M.length M.length) (hO : BO w0 w v L) (hb : w.heap[b]? = some (.cells (M.map (Value.int .u8)).toArray 5)) (hL : L.length + M.length ≤ 1000000000)
    (h : ∀ v' w', BO w0 w' v' (L ++ M) → Kp w v w' v' → wpList Tryd.prog ops Q rest (a.put o.dst v') w') : wpList Tryd.prog ops Q (o :: rest) a w := by
  obtain ⟨v', w', hrun, hB, hK2⟩ := bo_run2 o.type hO hb hL
  refine wpList_plain hgd fun K hK => ?_
  unfold Oper.wp
  simp [execOp, ho, resolve, invoke, builtin, hs, hx, hrun, Result.andThen]
  exact hK _ _ (h v' w' hB hK2)
theorem step_bytes2 {ops : Array Oper} {o : Oper} {a : Act} {w0 w : World} {K : Act → World → Prop} {Q : Exit → Act → World → Prop} {E : Prop} (hgd : o.guard = none) (s x : Operand)
    (ho : o.op = .call { callee := .builtin .append, args := #[s, x], argTypes := #[44, 44] }) (v : Value) (L M : List Int) (b : Nat) (hs : a.eval s = v) (hx : a.eval x = .slice (some ⟨b, 0, none⟩) M.length M.length) (hO : BO w0 w v L) (hb : w.heap[b]? = some (.cells (M.map (Value.int .u8)).toArray 5)) (hL : L.length + M.length ≤ 1000000000)
    (hK : ∀ v' w', BO w0 w' v' (L ++ M) → Kp w v w' v' → K (a.put o.dst v') w') : if Region.wanted o (yielded ops a.tmps) = true then Oper.wp Tryd.prog o a w K Q else E := by
  have hw : Region.wanted o (yielded ops a.tmps) = true := by simp [Region.wanted, hgd]
  rw [if_pos hw]
  obtain ⟨v', w', hrun, hB, hK2⟩ := bo_run2 o.type hO hb hL
  unfold Oper.wp
  simp [execOp, ho, resolve, invoke, builtin, hs, hx, hrun, Result.andThen]
  exact hK v' w' hB hK2
set_option maxRecDepth 20000 in
set_option maxHeartbeats 2000000 in
theorem jquote_app (s : ByteArray) (w0 w : World) (vv : Value) (L0 : List Int) (hO : BO w0 w vv L0) (hL0 : L0.length ≤ 100000000) (hs : s.size ≤ 100000000) : Calls Tryd.prog 20 #[vv, .string s] w fun e w' => ∃ v, e = .returned v ∧ BO w0 w' v (L0 ++ (quL s s.size ++ [34])) ∧ Kp w vv w' v := by
  have hs1 : (s.size : Int) ≤ 100000000 := by omega
  have HO := Lib.hid hO
  obtain ⟨ad0, cp0, rfl⟩ := hO.slice
  clear hO
  go_enter Tryd.func20, Tryd.ntmps20
  go_wp2_with (at_builtin; refine app_bytes2 rfl (.tmp 8) (.tmp 9) rfl (.slice ad0 L0.length cp0) L0 [34] w.heap.size (by simp [Act.eval, Act.put]) (by simp [Act.eval, Act.put]) (HO.out.alloc _) (heap_alloc_new _ _) (by simp; omega) ?_; intro v1 w1 b1 q1; have B1 : Hid (BO w0 w1 v1 (L0 ++ quL s 0)) := Lib.hid b1; have Q1 : Hid (Kp w (.slice ad0 L0.length cp0) w1 v1) := Lib.hid (((Kp.refl _ _).alloc _).trans q1); clear b1 q1)
  go_loopw [0, 5, 6, 7] (fun v0 v5 _ _ wr => ∃ (i : Nat) (v : Value), i ≤ s.size ∧ v5 = .int .i64 i ∧ v = v0 ∧ Hid (BO w0 wr v (L0 ++ quL s i)) ∧ Hid (Kp w (.slice ad0 L0.length cp0) wr v)) (fun _ v5 _ _ _ => s.size - (intOf v5).toNat)
  case atStart => exact ⟨0, _, Nat.zero_le _, rfl, rfl, B1, Q1⟩
  case round =>
    obtain ⟨i, v, hi, rfl, rfl, HB, HK⟩ := hrel
    have HL := Lib.hid (quL_len s i)
    by_cases hlt : i < s.size
    · have hlt' : (i : Int) < s.size := by omega
      have hge : (0 : Int) ≤ i := by omega
      have HQ : Hid (L0 ++ quL s (i + 1) = (L0 ++ quL s i) ++ escI (byt s i)) := Lib.hid (by rw [List.append_assoc]; rfl)
      rw [byt_nat hlt] at HQ
      have hx1 := UInt8.toNat_lt s[i]
      go_wp2_with fail
      obtain ⟨x, hx⟩ : ∃ x : Int, x = (s[i].toNat : Int) := ⟨_, rfl⟩
      rw [← hx] at HQ ⊢
      have hx0 : 0 ≤ x := by omega
      have hx2 : x < 256 := by omega
      clear hx hx1
      refine (short_any x wr).mono ?_
      rintro e w2 ⟨rfl, h2⟩
      obtain rfl : wr = w2 := h2.symm
      obtain ⟨y, hy⟩ : ∃ y, y = shortI x := ⟨_, rfl⟩
      rw [← hy]
      by_cases hy0 : y = 0
      · subst hy0
        by_cases hlo : x < 32
        · rw [esc_low hy.symm hlo] at HQ
          clear hy
          have HBD := Lib.hid HB.out.drew
          have i1 := fun W => hexL_at (x / 16) (by omega) (by omega) W .u8
          have i2 := fun W => hexL_at (x % 16) (by omega) (by omega) W .u8
          have i3 := andF x hx0 hx2
          go_wp2_with fail
          go_region_law (first
            | (refine step_bytes2 rfl (.tmp 36) (.tmp 43) rfl v (L0 ++ quL s i) [92, 117, 48, 48, hexI (x / 16), hexI (x % 16)] wr.heap.size (by simp [Act.eval, Act.put]) (by simp [Act.eval, Act.put]) (HBD.out.alloc _) (heap_alloc_new _ _) (by have := HL.out; have h0 : (L0 ++ quL s i).length = L0.length + (quL s i).length := List.length_append; simp at h0 ⊢; omega) ?_; intro v2 w2 b2 q2; rw [← HQ.out] at b2; have B2 := Lib.hid b2; have Q2 : Hid (Kp w (.slice ad0 L0.length cp0) w2 v2) := Lib.hid ((HK.out.drew.alloc _).trans q2); clear b2 q2))
          all_goals
            go_wp2_with fail
            go_roundw
            case rel => exact ⟨i + 1, _, by omega, by go_num, rfl, B2, Q2⟩
            case measure => simp [intOf]; omega
        · rw [esc_own hy.symm hlo] at HQ
          clear hy
          go_wp2_with (at_builtin; refine app_bytes2 rfl (.tmp 22) (.tmp 24) rfl v (L0 ++ quL s i) [x] wr.heap.size (by simp [Act.eval, Act.put]) (by simp [Act.eval, Act.put]) (HB.out.alloc _) (heap_alloc_new _ _) (by have := HL.out; have h0 : (L0 ++ quL s i).length = L0.length + (quL s i).length := List.length_append; simp at h0 ⊢; omega) ?_; intro v2 w2 b2 q2; rw [← HQ.out] at b2; have B2 := Lib.hid b2; have Q2 : Hid (Kp w (.slice ad0 L0.length cp0) w2 v2) := Lib.hid ((HK.out.alloc _).trans q2); clear b2 q2)
          go_roundw
          case rel => exact ⟨i + 1, _, by omega, by go_num, rfl, B2, Q2⟩
          case measure => simp [intOf]; omega
      · rw [esc_short (by rw [← hy]; exact hy0), ← hy] at HQ
        have g0 : (y != 0) = true := by simpa using hy0
        clear hy hy0
        go_wp2_with (at_builtin; refine app_bytes2 rfl (.tmp 29) (.tmp 31) rfl v (L0 ++ quL s i) [92, y] wr.heap.size (by simp [Act.eval, Act.put]) (by simp [Act.eval, Act.put]) (HB.out.alloc _) (heap_alloc_new _ _) (by have := HL.out; have h0 : (L0 ++ quL s i).length = L0.length + (quL s i).length := List.length_append; simp at h0 ⊢; omega) ?_; intro v2 w2 b2 q2; rw [← HQ.out] at b2; have B2 := Lib.hid b2; have Q2 : Hid (Kp w (.slice ad0 L0.length cp0) w2 v2) := Lib.hid ((HK.out.alloc _).trans q2); clear b2 q2)
        go_roundw
        case rel => exact ⟨i + 1, _, by omega, by go_num, rfl, B2, Q2⟩
        case measure => simp [intOf]; omega
    · have him : i = s.size := by omega
      subst him
      have hz : ¬ ((s.size : Int) < (s.size : Int)) := by omega
      go_wp2_with (at_builtin; refine app_bytes2 rfl (.tmp 45) (.tmp 46) rfl v (L0 ++ quL s s.size) [34] wr.heap.size (by simp [Act.eval, Act.put]) (by simp [Act.eval, Act.put]) (HB.out.alloc _) (heap_alloc_new _ _) (by have := HL.out; have h0 : (L0 ++ quL s s.size).length = L0.length + (quL s s.size).length := List.length_append; simp at h0 ⊢; omega) ?_; intro v2 w2 b2 q2; rw [List.append_assoc] at b2; have B2 := Lib.hid b2; have Q2 : Hid (Kp w (.slice ad0 L0.length cp0) w2 v2) := Lib.hid ((HK.out.alloc _).trans q2); clear b2 q2)
      go_ret
      exact ⟨_, rfl, B2.out, Q2.out⟩
set_option maxRecDepth 20000 in
theorem between_any (i : Nat) (w0 w : World) (vv : Value) (L : List Int) (hO : BO w0 w vv L) (hL : L.length ≤ 100000000) : Calls Tryd.prog 42 #[vv, .int .i64 (i : Nat)] w fun e w' => ∃ v, e = .returned v ∧ BO w0 w' v (if 0 < i then L ++ [44] else L) ∧ Kp w vv w' v := by
  have HO := Lib.hid hO
  clear hO
  rcases Nat.eq_zero_or_pos i with h0 | h0
  · subst h0
    go_enter Tryd.func42, Tryd.ntmps42
    go_wp2_with fail
    go_ret
    exact ⟨_, rfl, HO.out, Kp.refl _ _⟩
  · have h1 : ((i : Int) == 0) = false := by rw [beq_eq_false_iff_ne]; omega
    rw [if_pos h0]
    obtain ⟨ad0, cp0, rfl⟩ := HO.out.slice
    go_enter Tryd.func42, Tryd.ntmps42
    go_wp2_with (at_builtin; refine app_bytes2 rfl (.tmp 8) (.tmp 9) rfl (.slice ad0 L.length cp0) L [44] w.heap.size (by simp [Act.eval, Act.put]) (by simp [Act.eval, Act.put]) (HO.out.alloc _) (heap_alloc_new _ _) (by simp; omega) ?_; intro v1 w1 b1 q1; have B1 := Lib.hid b1; have Q1 : Hid (Kp w (.slice ad0 L.length cp0) w1 v1) := Lib.hid (((Kp.refl _ _).alloc _).trans q1); clear b1 q1)
    go_ret
    exact ⟨_, rfl, B1.out, Q1.out⟩
end Go.Proofs.YtoicmcjpaodgpaaDoor
/- Layer 4: how large a value's JSON is; the tables. -/
namespace Go.Proofs.YtoicmcjpaodgpaaDoor
open Go.RowKit
def i64ok (i : Int) : Prop := -9223372036854775808 ≤ i ∧ i ≤ 9223372036854775807
theorem itT_size {i : Int} (h : i64ok i) : (itT i).size ≤ 21 := Lib.itoa_length_le i h.1 h.2
theorem quT_size (s : ByteArray) : (quT s).size ≤ 6 * s.size + 2 := by
  unfold quT
  rw [mkB_size, List.length_append, List.length_singleton]
  have := quL_len s s.size
  omega
theorem app_size (a b : ByteArray) : (a ++ b).size = a.size + b.size := ByteArray.size_append
/-- Plain cells small enough. -/
structure SmJ (g : Nat → CR) (n : Nat) : Prop where
  nm : ∀ i, i < n → (g i).nm.size ≤ 3000
  tx : ∀ i, i < n → (g i).tx.size ≤ 3000
  nn : ∀ i, i < n → i64ok (g i).n
  pl : ∀ i, i < n → enB (g i) = false
theorem jki_size {V : Nat → ByteArray} {g : Nat → CR} {n : Nat} {obj : Bool} {p : Nat} (hs : SmJ g n) : ∀ k, (∀ i, i < k → bd g n (p + 1) i < n ∧ bd g n (p + 1) i < bd g n (p + 1) (i + 1) ∧ bd g n (p + 1) (i + 1) ≤ n ∧ (V (bd g n (p + 1) i)).size + 40000 * (n - bd g n (p + 1) (i + 1)) ≤ 40000 * (n - bd g n (p + 1) i) - 20000) →
    (jki V g n obj p k).size + 40000 * (n - bd g n (p + 1) k) ≤ 40000 * (n - (p + 1))
  | 0, _ => by
    show 0 + 40000 * (n - (p + 1)) ≤ _
    omega
  | k + 1, h => by
    have ih := jki_size (obj := obj) hs k (fun i hi => h i (by omega))
    obtain ⟨h1, h2, h3, h4⟩ := h k (by omega)
    have hq := quT_size (g (bd g n (p + 1) k)).nm
    have hn := hs.nm _ h1
    unfold jki
    have e1 : (if 0 < k then jki V g n obj p k ++ (⟨#[44]⟩ : ByteArray) else jki V g n obj p k).size ≤ (jki V g n obj p k).size + 1 := by
      split
      · rw [app_size]; exact Nat.le_refl _
      · omega
    have e3 : (if obj then (if 0 < k then jki V g n obj p k ++ (⟨#[44]⟩ : ByteArray) else jki V g n obj p k) ++ (quT (g (bd g n (p + 1) k)).nm ++ ⟨#[58]⟩) else (if 0 < k then jki V g n obj p k ++ (⟨#[44]⟩ : ByteArray) else jki V g n obj p k)).size ≤ (jki V g n obj p k).size + 18004 := by
      split
      · rw [app_size, app_size]
        have : (⟨#[58]⟩ : ByteArray).size = 1 := rfl
        omega
      · omega
    rw [app_size]
    omega
/-- The values in a value, one behind the other. -/
theorem kids_bd {g : Nat → CR} {n p e : Nat} (h : wk g n 16 p = some e) : (∀ i, i < (g p).m.toNat → wk g n 16 (bd g n (p + 1) i) = some (bd g n (p + 1) (i + 1))) ∧ bd g n (p + 1) (g p).m.toNat = e ∧ p < n ∧ oneP (g p) = true ∧ 0 ≤ (g p).m := by
  obtain ⟨h1, h2, h3, h4⟩ := wk_open (Nat.le_refl _) h
  obtain ⟨h5, h6⟩ := bd_chain _ _ _ h4
  exact ⟨h5, h6, h1, h2, h3⟩
theorem bd_ge {g : Nat → CR} {n a m : Nat} (h : ∀ i, i < m → wk g n 16 (bd g n a i) = some (bd g n a (i + 1))) : ∀ i, i ≤ m → a + i ≤ bd g n a i
  | 0, _ => Nat.le_refl _
  | i + 1, hi => by
    have h1 := bd_ge h i (by omega)
    have h2 := wk_lt _ _ _ (h i (by omega))
    omega
theorem jtx_size {g : Nat → CR} {n : Nat} (hs : SmJ g n) : ∀ (f p e : Nat), n - p ≤ f → wk g n 16 p = some e → (jtx g n f p).size + 40000 * (n - e) ≤ 40000 * (n - p) - 20000
  | 0, p, e, hf, hw => by
    have := wk_lt _ _ _ hw
    omega
  | f + 1, p, e, hf, hw => by
    obtain ⟨h1, h2, h3, h4, h5⟩ := kids_bd hw
    have hlt := wk_lt _ _ _ hw
    have hx := quT_size (g p).tx
    have hxt := hs.tx p h3
    have hi := itT_size (hs.nn p h3)
    have hk : ∀ obj, (jki (jtx g n f) g n obj p (g p).m.toNat).size + 40000 * (n - e) ≤ 40000 * (n - (p + 1)) := fun obj => by
      have := jki_size (V := jtx g n f) (obj := obj) (p := p) hs (g p).m.toNat (fun i hi => by
        have hb := bd_ge h1 i (by omega)
        have hl := wk_lt _ _ _ (h1 i hi)
        exact ⟨by omega, hl.1, hl.2, jtx_size hs f _ _ (by omega) (h1 i hi)⟩)
      rw [h2] at this
      exact this
    unfold jtx
    split
    · show 4 + _ ≤ _; omega
    · split
      · split
        · show 4 + _ ≤ _; omega
        · show 5 + _ ≤ _; omega
      · split
        · omega
        · split
          · omega
          · split
            · rw [app_size, app_size]
              have := hk true
              show 1 + _ + 1 + _ ≤ _
              omega
            · rw [app_size, app_size]
              have := hk false
              show 1 + _ + 1 + _ ≤ _
              omega
/-- What the tables hold: the powers of ten. -/
def Tabs (w : World) : Prop := Lib.TabIs Tryd.prog w "internal/strconv.uint64pow10" .u64 Lib.pow10Tab
theorem gPow : Tryd.prog.globalNamed "internal/strconv.uint64pow10" = some 0 := by kernel_rfl
theorem Tabs.later {w w' : World} (t : Tabs w) (h : Below w.heap.size w w') : Tabs w' :=
  var?_below h gPow (World.block_lt_of_cell? w ⟨0, 0, none⟩ (Lib.TabIs.cell t gPow 0 (by decide +kernel))) t
theorem below_new (w : World) (k : Nat) (os : Array Obj) : Below w.heap.size w (Sort.grow (w.drewN k) os) := by
  refine ⟨rfl, rfl, rfl, by simp [Sort.grow], fun i hi => ?_⟩
  show ((w.drewN k).heap ++ os)[i]? = _
  rw [Array.getElem?_append_left (by exact hi)]
  rfl
theorem swrite_any (n : Int) (w : World) (t : Tabs w) (h : i64ok n) :
    Calls Tryd.prog 41 #[.int .i64 n] w fun e w' => e = .returned (.string (itT n)) ∧ Below w.heap.size w w' := by
  go_enter Tryd.func41, Tryd.ntmps41
  go_wp2_with fail
  refine (Tryd.strconv_FormatInt_10 n h.1 h.2 _ t).mono ?_
  rintro e w1 ⟨rfl, k, os, hw⟩
  have b1 : Below w.heap.size w w1 := by rw [hw]; exact below_new _ _ _
  clear hw
  go_wp2_with fail
  go_ret
  exact ⟨rfl, b1⟩
end Go.Proofs.YtoicmcjpaodgpaaDoor
