import Derived.Test.YtolegmlfmlfbhaaDoorK1
import Derived.Laws.AppendOwn
import Derived.Below
import Derived.Deep.LoopGhost
import Derived.Deep.RegionLaw
import Derived.Lib.Hide
import Derived.Outline
import Derived.WalkKit
import Derived.WalkLawsBesides
import Derived.WalkSpells
import Derived.Laws.IdiomStrings
import Derived.Lib.BufferRead
import Derived.Deep.RegionWith
import Derived.Deep.QuietTactic
import Derived.BigQuiet
/- Layer 31, ServeWrites: a text quoted (plain), and appends of bytes. -/
namespace Go.Proofs.YtolegmlfmlfbhaaDoor
open Go.RowKit
def hexI (x : Int) : Int := if x < 10 then 48 + x else 87 + x
def shortI (x : Int) : Int := if x = 34 then 34 else if x = 92 then 92 else if x = 8 then 98 else if x = 9 then 116 else if x = 10 then 110 else if x = 12 then 102 else if x = 13 then 114 else 0
def escI (x : Int) : List Int := if shortI x ≠ 0 then [92, shortI x] else if x < 32 then [92, 117, 48, 48, hexI (x / 16), hexI (x % 16)] else [x]
def quL (s : ByteArray) : Nat → List Int
  | 0 => [34]
  | k + 1 => quL s k ++ escI (byt s k)
theorem esc_len (x : Int) : (escI x).length ≤ 6 := by unfold escI; split <;> (try split) <;> simp
theorem quL_len (s : ByteArray) (k : Nat) : (quL s k).length ≤ 6 * k + 1 := by
  induction k with
  | zero => exact Nat.le_refl _
  | succ k ih => unfold quL; rw [List.length_append]; have := esc_len (byt s k); omega
theorem short_range (x : Int) : 0 ≤ shortI x ∧ shortI x < 256 := by unfold shortI; repeat' split <;> (try omega)
theorem esc_range (x : Int) (h0 : 0 ≤ x) (h1 : x < 256) : ∀ y ∈ escI x, 0 ≤ y ∧ y < 256 := by
  have hs := short_range x
  unfold escI
  split
  · intro y hy; simp at hy; rcases hy with rfl | rfl <;> omega
  · split
    · intro y hy
      simp at hy
      unfold hexI at hy
      rcases hy with rfl | rfl | rfl | rfl | rfl <;> (first | omega | (split <;> omega))
    · intro y hy; simp at hy; omega
theorem quL_range (s : ByteArray) (k : Nat) : ∀ y ∈ quL s k, 0 ≤ y ∧ y < 256 := by
  induction k with
  | zero => intro y hy; simp [quL] at hy; omega
  | succ k ih =>
    intro y hy
    unfold quL at hy
    rcases List.mem_append.1 hy with hy | hy
    · exact ih y hy
    · exact esc_range _ (byt_range s k).1 (byt_range s k).2 y hy
/-- A text, quoted. -/
def quT (s : ByteArray) : ByteArray := mkB (quL s s.size ++ [34])
theorem qu_end (s : ByteArray) : ∀ y ∈ quL s s.size ++ [34], 0 ≤ y ∧ y < 256 := by
  intro y hy
  rcases List.mem_append.1 hy with hy | hy
  · exact quL_range s _ y hy
  · simp at hy; omega
theorem infoB : ∃ i, Tryd.prog.info? 5 = some i ∧ i.zero = some (.int .u8 0) ∧ i.size = 1 ∧ i.bytes = 1 := by
  have h := Tryd.typeInfo5 default
  unfold typeInfo at h
  cases hq : Tryd.prog.info? 5 with
  | none => simp [hq] at h
  | some i =>
    simp [hq] at h
    exact ⟨i, rfl, by rw [h]; rfl, by rw [h]; rfl, by rw [h]; rfl⟩
def BO (w0 w : World) (v : Value) (L : List Int) : Prop := w.ownsRow w0.heap.size 5 1 v L.length (L.map (Value.int .u8)) ∧ Below w0.heap.size w0 w
theorem BO.nil (w : World) : BO w w (.slice none 0 0) [] := ⟨World.ownsRow_nil _ _ _ _, Below.refl _ _⟩
theorem BO.alloc {w0 w : World} {v : Value} {L : List Int} (h : BO w0 w v L) (o : Obj) : BO w0 (w.alloc o) v L := ⟨h.1.alloc o, h.2.alloc h.2.size o⟩
theorem BO.drew {w0 w : World} {v : Value} {L : List Int} (h : BO w0 w v L) : BO w0 w.drew v L := ⟨h.1.drew, h.2.drew⟩
theorem BO.slice {w0 w : World} {v : Value} {L : List Int} (h : BO w0 w v L) : ∃ ad c, v = .slice ad L.length c := by
  rcases h.1.2 with ⟨rfl, hn⟩ | ⟨g, cap, cur, rfl, _⟩
  · exact ⟨none, 0, by rw [hn]⟩
  · exact ⟨_, _, rfl⟩
theorem news_bytes {w : World} {b : Nat} {M : List Int} (hb : w.heap[b]? = some (.cells (M.map (Value.int .u8)).toArray 5)) : ∀ j u, (M.map (Value.int .u8))[j]? = some u → w.cell? ((⟨b, 0, none⟩ : Addr).add j) = some u := fun j u hj => by
  rw [Addr.add_lit]
  simp [World.cell?, hb]
  simpa using hj
theorem bo_run {w0 w : World} {v : Value} {L M : List Int} {b : Nat} (ty : TypeId) (hO : BO w0 w v L) (hb : w.heap[b]? = some (.cells (M.map (Value.int .u8)).toArray 5)) (hL : L.length + M.length ≤ 1000000000) :
    ∃ v' w', (Builtin.append_ #[48, 48] ty #[v, .slice (some ⟨b, 0, none⟩) M.length M.length]).run Tryd.prog w = .ok v' w' ∧ BO w0 w' v' (L ++ M) := by
  obtain ⟨i, h2, h3, h4, h5⟩ := infoB
  obtain ⟨v', w', hrun, r1, r2, _⟩ := run_append_own (P := Tryd.prog) (w := w) w0.heap.size 48 ty 5 i _ 1 1 Tryd.underlying48 h2 h3 h4 h5 rfl (by decide) v L.length (L.map (Value.int .u8)) hO.1 ⟨b, 0, none⟩ M.length M.length (M.map (Value.int .u8)) (by simp) (news_bytes hb) (by intro u hu; obtain ⟨x, _, rfl⟩ := List.mem_map.1 hu; rfl) (by unfold maxLen; omega) (by omega) hO.2.size
  refine ⟨v', w', hrun, ?_, hO.2.grown r2 hO.2.size (fun k hk => ?_)⟩
  · rw [List.length_append, List.map_append]; exact r1
  · rcases hO.1.2 with ⟨rfl, _⟩ | ⟨g, cap, cur, rfl, hg, _⟩
    · cases hk
    · simp only [Value.ownBlock, Option.some.injEq] at hk
      subst hk; exact hg
theorem app_bytes {ops : Array Oper} {rest : List Oper} {o : Oper} {a : Act} {w0 w : World} {Q : Exit → Act → World → Prop} (hgd : o.guard = none) (s x : Operand)
    (ho : o.op = .call { callee := .builtin .append, args := #[s, x], argTypes := #[48, 48] }) (v : Value) (L M : List Int) (b : Nat) (hs : a.eval s = v) (hx : a.eval x = .slice (some ⟨b, 0, none⟩) M.length M.length) (hO : BO w0 w v L) (hb : w.heap[b]? = some (.cells (M.map (Value.int .u8)).toArray 5)) (hL : L.length + M.length ≤ 1000000000)
    (h : ∀ v' w', BO w0 w' v' (L ++ M) → wpList Tryd.prog ops Q rest (a.put o.dst v') w') : wpList Tryd.prog ops Q (o :: rest) a w := by
  obtain ⟨v', w', hrun, hB⟩ := bo_run o.type hO hb hL
  refine wpList_plain hgd fun K hK => ?_
  unfold Oper.wp
  simp [execOp, ho, resolve, invoke, builtin, hs, hx, hrun, Result.andThen]
  exact hK _ _ (h v' w' hB)
theorem step_bytes {ops : Array Oper} {o : Oper} {a : Act} {w0 w : World} {K : Act → World → Prop} {Q : Exit → Act → World → Prop} {E : Prop} (hgd : o.guard = none) (s x : Operand)
    (ho : o.op = .call { callee := .builtin .append, args := #[s, x], argTypes := #[48, 48] }) (v : Value) (L M : List Int) (b : Nat) (hs : a.eval s = v) (hx : a.eval x = .slice (some ⟨b, 0, none⟩) M.length M.length) (hO : BO w0 w v L) (hb : w.heap[b]? = some (.cells (M.map (Value.int .u8)).toArray 5)) (hL : L.length + M.length ≤ 1000000000)
    (hK : ∀ v' w', BO w0 w' v' (L ++ M) → K (a.put o.dst v') w') : if Region.wanted o (yielded ops a.tmps) = true then Oper.wp Tryd.prog o a w K Q else E := by
  have hw : Region.wanted o (yielded ops a.tmps) = true := by simp [Region.wanted, hgd]
  rw [if_pos hw]
  obtain ⟨v', w', hrun, hB⟩ := bo_run o.type hO hb hL
  unfold Oper.wp
  simp [execOp, ho, resolve, invoke, builtin, hs, hx, hrun, Result.andThen]
  exact hK v' w' hB
end Go.Proofs.YtolegmlfmlfbhaaDoor
/- Layer 31, ServeWrites: a text quoted, by the program and by the document. -/
namespace Go.Proofs.YtolegmlfmlfbhaaDoor
open Go.RowKit
set_option maxRecDepth 20000 in
theorem short_any (x : Int) (w : World) : Calls Tryd.prog 42 #[.int .u8 x] w fun e w' => e = .returned (.int .u8 (shortI x)) ∧ w' = w := by
  by_cases h1 : x = 34
  · subst h1; go_enter Tryd.func42, Tryd.ntmps42; go_wp2_with fail; go_ret; exact ⟨rfl, rfl⟩
  by_cases h2 : x = 92
  · subst h2; go_enter Tryd.func42, Tryd.ntmps42; go_wp2_with fail; go_ret; exact ⟨rfl, rfl⟩
  by_cases h3 : x = 8
  · subst h3; go_enter Tryd.func42, Tryd.ntmps42; go_wp2_with fail; go_ret; exact ⟨rfl, rfl⟩
  by_cases h4 : x = 9
  · subst h4; go_enter Tryd.func42, Tryd.ntmps42; go_wp2_with fail; go_ret; exact ⟨rfl, rfl⟩
  by_cases h5 : x = 10
  · subst h5; go_enter Tryd.func42, Tryd.ntmps42; go_wp2_with fail; go_ret; exact ⟨rfl, rfl⟩
  by_cases h6 : x = 12
  · subst h6; go_enter Tryd.func42, Tryd.ntmps42; go_wp2_with fail; go_ret; exact ⟨rfl, rfl⟩
  by_cases h7 : x = 13
  · subst h7; go_enter Tryd.func42, Tryd.ntmps42; go_wp2_with fail; go_ret; exact ⟨rfl, rfl⟩
  have HX : Hid (shortI x = 0) := Lib.hid (by unfold shortI; rw [if_neg h1, if_neg h2, if_neg h3, if_neg h4, if_neg h5, if_neg h6, if_neg h7])
  have g1 : (x == 34) = false := by rw [beq_eq_false_iff_ne]; exact h1
  have g2 : (x == 92) = false := by rw [beq_eq_false_iff_ne]; exact h2
  have g3 : (x == 8) = false := by rw [beq_eq_false_iff_ne]; exact h3
  have g4 : (x == 9) = false := by rw [beq_eq_false_iff_ne]; exact h4
  have g5 : (x == 10) = false := by rw [beq_eq_false_iff_ne]; exact h5
  have g6 : (x == 12) = false := by rw [beq_eq_false_iff_ne]; exact h6
  have g7 : (x == 13) = false := by rw [beq_eq_false_iff_ne]; exact h7
  clear h1 h2 h3 h4 h5 h6 h7
  go_enter Tryd.func42, Tryd.ntmps42
  go_wp2_with fail
  go_ret
  exact ⟨by rw [HX.out]; rfl, rfl⟩
theorem byt_nat {s : ByteArray} {i : Nat} (h : i < s.size) : byt s i = (s[i].toNat : Int) := by unfold byt; rw [dif_pos h]
theorem esc_short {x : Int} (h : shortI x ≠ 0) : escI x = [92, shortI x] := by unfold escI; rw [if_pos h]
theorem esc_low {x : Int} (h : shortI x = 0) (h2 : x < 32) : escI x = [92, 117, 48, 48, hexI (x / 16), hexI (x % 16)] := by unfold escI; rw [if_neg (by simpa using h), if_pos h2]
theorem esc_own {x : Int} (h : shortI x = 0) (h2 : ¬ x < 32) : escI x = [x] := by unfold escI; rw [if_neg (by simpa using h), if_neg h2]
theorem andF (x : Int) (h0 : 0 ≤ x) (h1 : x < 256) : bits BinOp.and IntKind.u8 x 15 = x % 16 := by
  have h : ∀ n : Fin 256, bits BinOp.and IntKind.u8 (n.val : Int) 15 = (n.val : Int) % 16 := by decide +kernel
  have := h ⟨x.toNat, by omega⟩
  rw [show ((⟨x.toNat, by omega⟩ : Fin 256).val : Int) = x by simp; omega] at this
  exact this
theorem hexL_at (n : Int) (h0 : 0 ≤ n) (h : n < 16) (w : World) (k : IntKind) : (Instr.index 9 (.string ⟨#[48, 49, 50, 51, 52, 53, 54, 55, 56, 57, 97, 98, 99, 100, 101, 102]⟩) (.int k n)).run Tryd.prog w = .ok (.int .u8 (hexI n)) w := by
  rw [run_index_string _ _ _ _ _ Tryd.underlying9]
  rcases (show n = 0 ∨ n = 1 ∨ n = 2 ∨ n = 3 ∨ n = 4 ∨ n = 5 ∨ n = 6 ∨ n = 7 ∨ n = 8 ∨ n = 9 ∨ n = 10 ∨ n = 11 ∨ n = 12 ∨ n = 13 ∨ n = 14 ∨ n = 15 by omega) with rfl | rfl | rfl | rfl | rfl | rfl | rfl | rfl | rfl | rfl | rfl | rfl | rfl | rfl | rfl | rfl <;> rfl
set_option maxRecDepth 20000 in
set_option maxHeartbeats 2000000 in
theorem jquote_any (s : ByteArray) (w : World) (hs : s.size ≤ 100000000) : Calls Tryd.prog 36 #[.slice none 0 0, .string s] w fun e w' => ∃ v, e = .returned v ∧ BO w w' v (quL s s.size ++ [34]) := by
  have hs1 : (s.size : Int) ≤ 100000000 := by omega
  go_enter Tryd.func36, Tryd.ntmps36
  go_wp2_with (at_builtin; refine app_bytes rfl (.tmp 8) (.tmp 9) rfl (.slice none 0 0) [] [34] w.heap.size (by simp [Act.eval, Act.put]) (by simp [Act.eval, Act.put]) ((BO.nil w).alloc _) (heap_alloc_new _ _) (by simp) ?_; intro v1 w1 b1; have B1 := Lib.hid b1; clear b1)
  go_loopw [0, 5, 6, 7] (fun v0 v5 _ _ wr => ∃ (i : Nat) (v : Value), i ≤ s.size ∧ v5 = .int .i64 i ∧ v = v0 ∧ Hid (BO w wr v (quL s i))) (fun _ v5 _ _ _ => s.size - (intOf v5).toNat)
  case atStart => exact ⟨0, _, Nat.zero_le _, rfl, rfl, B1⟩
  case round =>
    obtain ⟨i, v, hi, rfl, rfl, HB⟩ := hrel
    have HL := Lib.hid (quL_len s i)
    by_cases hlt : i < s.size
    · have hlt' : (i : Int) < s.size := by omega
      have hge : (0 : Int) ≤ i := by omega
      have HQ : Hid (quL s (i + 1) = quL s i ++ escI (byt s i)) := Lib.hid rfl
      rw [byt_nat hlt] at HQ
      have hx1 := UInt8.toNat_lt s[i]
      go_wp2_with fail
      obtain ⟨x, hx⟩ : ∃ x : Int, x = (s[i].toNat : Int) := ⟨_, rfl⟩
      rw [← hx] at HQ ⊢
      have hx0 : 0 ≤ x := by omega
      have hx2 : x < 256 := by omega
      clear hx hx1
      refine (short_any x wr).mono ?_
      rintro e w2 ⟨rfl, h2⟩
      obtain rfl : wr = w2 := h2.symm
      obtain ⟨y, hy⟩ : ∃ y, y = shortI x := ⟨_, rfl⟩
      rw [← hy]
      by_cases hy0 : y = 0
      · subst hy0
        by_cases hlo : x < 32
        · rw [esc_low hy.symm hlo] at HQ
          clear hy
          have HBD := Lib.hid HB.out.drew
          have i1 := fun W => hexL_at (x / 16) (by omega) (by omega) W .u8
          have i2 := fun W => hexL_at (x % 16) (by omega) (by omega) W .u8
          have i3 := andF x hx0 hx2
          go_wp2_with fail
          go_region_law (first
            | (refine step_bytes rfl (.tmp 36) (.tmp 43) rfl v (quL s i) [92, 117, 48, 48, hexI (x / 16), hexI (x % 16)] wr.heap.size (by simp [Act.eval, Act.put]) (by simp [Act.eval, Act.put]) (HBD.out.alloc _) (heap_alloc_new _ _) (by have := HL.out; simp; omega) ?_; intro v2 w2 b2; rw [← HQ.out] at b2; have B2 := Lib.hid b2; clear b2))
          all_goals
            go_wp2_with fail
            go_roundw
            case rel => exact ⟨i + 1, _, by omega, by go_num, rfl, B2⟩
            case measure => simp [intOf]; omega
        · rw [esc_own hy.symm hlo] at HQ
          clear hy
          go_wp2_with (at_builtin; refine app_bytes rfl (.tmp 22) (.tmp 24) rfl v (quL s i) [x] wr.heap.size (by simp [Act.eval, Act.put]) (by simp [Act.eval, Act.put]) (HB.out.alloc _) (heap_alloc_new _ _) (by have := HL.out; simp; omega) ?_; intro v2 w2 b2; rw [← HQ.out] at b2; have B2 := Lib.hid b2; clear b2)
          go_roundw
          case rel => exact ⟨i + 1, _, by omega, by go_num, rfl, B2⟩
          case measure => simp [intOf]; omega
      · rw [esc_short (by rw [← hy]; exact hy0), ← hy] at HQ
        have g0 : (y != 0) = true := by simpa using hy0
        clear hy hy0
        go_wp2_with (at_builtin; refine app_bytes rfl (.tmp 29) (.tmp 31) rfl v (quL s i) [92, y] wr.heap.size (by simp [Act.eval, Act.put]) (by simp [Act.eval, Act.put]) (HB.out.alloc _) (heap_alloc_new _ _) (by have := HL.out; simp; omega) ?_; intro v2 w2 b2; rw [← HQ.out] at b2; have B2 := Lib.hid b2; clear b2)
        go_roundw
        case rel => exact ⟨i + 1, _, by omega, by go_num, rfl, B2⟩
        case measure => simp [intOf]; omega
    · have him : i = s.size := by omega
      subst him
      have hz : ¬ ((s.size : Int) < (s.size : Int)) := by omega
      go_wp2_with (at_builtin; refine app_bytes rfl (.tmp 45) (.tmp 46) rfl v (quL s s.size) [34] wr.heap.size (by simp [Act.eval, Act.put]) (by simp [Act.eval, Act.put]) (HB.out.alloc _) (heap_alloc_new _ _) (by have := HL.out; simp; omega) ?_; intro v2 w2 b2; have B2 := Lib.hid b2; clear b2)
      go_ret
      exact ⟨_, rfl, B2.out⟩
end Go.Proofs.YtolegmlfmlfbhaaDoor
/- The document's code points of a text: number, Is, Bytes, One (as in layer 1). -/
namespace Go.Proofs.YtolegmlfmlfbhaaDoor
open Go.RowKit
set_option maxRecDepth 20000 in
theorem below_drewN0 {B : Nat} {w w1 : World} (h : Below B w w1) (n : Nat) : Below B w (w1.drewN n) := ⟨h.os, h.tape, h.output, h.size, h.block⟩
set_option maxRecDepth 20000 in
theorem is_any (p : Int) (w : World) :
    Calls Tryd.prog 58 #[.int .i64 p] w fun e w' => e = .returned (.bool (isPt p)) ∧ w = w' := by
  go_enter Tryd.func58, Tryd.ntmps58
  go_wp2
  all_goals
    go_ret
    refine ⟨ret_bool ?_, rfl⟩
    unfold isPt
    rw [Bool.eq_iff_iff]
    simp only [Bool.or_eq_true, decide_eq_true_eq, true_iff, Bool.false_eq_true, false_iff]
    try omega

set_option maxRecDepth 20000 in
theorem bytes_any (p : Int) (w : World) (h0 : 0 ≤ p) (h1 : p < 1114112) :
    Calls Tryd.prog 59 #[.int .i64 p] w fun e w' => e = .returned (.slice (some ⟨w.heap.size, 0, none⟩) (enc p).length (enc p).length) ∧ (∃ cs : Array Value, cs.toList = (enc p).map (Value.int .u8) ∧ w' = w.alloc (.cells cs 5)) := by
  by_cases c1 : p < 128
  · have he : Hid (enc p = [p]) := Lib.hid (by unfold enc; rw [if_pos c1])
    go_enter Tryd.func59, Tryd.ntmps59
    go_wp2_with fail
    go_ret
    rw [he.out]
    refine ⟨rfl, _, ?_, rfl⟩
    simp
  by_cases c2 : p < 2048
  · have he : Hid (enc p = [192 + p / 64, 128 + p % 64]) := Lib.hid (by unfold enc; rw [if_neg c1, if_pos c2])
    go_enter Tryd.func59, Tryd.ntmps59
    go_wp2_with fail
    go_ret
    rw [he.out]
    refine ⟨rfl, _, ?_, rfl⟩
    rfl
  by_cases c3 : p < 65536
  · have he : Hid (enc p = [224 + p / 4096, 128 + p / 64 % 64, 128 + p % 64]) := Lib.hid (by unfold enc; rw [if_neg c1, if_neg c2, if_pos c3])
    go_enter Tryd.func59, Tryd.ntmps59
    go_wp2_with fail
    go_ret
    rw [he.out]
    exact ⟨rfl, _, rfl, rfl⟩
  · have he : Hid (enc p = [240 + p / 262144, 128 + p / 4096 % 64, 128 + p / 64 % 64, 128 + p % 64]) := Lib.hid (by unfold enc; rw [if_neg c1, if_neg c2, if_neg c3])
    go_enter Tryd.func59, Tryd.ntmps59
    go_wp2_with fail
    go_ret
    rw [he.out]
    exact ⟨rfl, _, rfl, rfl⟩

set_option maxRecDepth 20000 in
theorem conv_own {w : World} {B : Nat} {v : Value} {L : List Int} (h : w.ownsRow B 5 1 v L.length (L.map (Value.int .u8))) (hr : ∀ x ∈ L, 0 ≤ x ∧ x < 256) :
    (convert 48 9 v).run Tryd.prog w = .ok (.string (mkB L)) w := by
  rcases h.2 with ⟨rfl, hn⟩ | ⟨g, cap, cur, rfl, hg, hgg, h1, h2, h3, h4⟩
  · have : L = [] := by cases L <;> simp_all
    subst this
    exact Lib.run_convert_nil_bytes w 48 9 5 0 Tryd.underlying48 Tryd.underlying5 Tryd.underlying9
  · have k := run_convert_bytes_back (P := Tryd.prog) w 48 9 5 ⟨g, 0, none⟩ cap (L.map (fun x => UInt8.ofNat x.toNat)) Tryd.underlying48 Tryd.underlying5 Tryd.underlying9 (fun j hj => by
      have hj' : j < L.length := by simpa using hj
      have hx := hr L[j] (List.getElem_mem hj')
      rw [Addr.add_lit, Nat.zero_add, h.cellAt j (by omega)]
      simp only [List.getElem?_map, List.getElem?_eq_getElem hj', Option.map_some, List.getElem_map, Option.some.injEq, Value.int.injEq, true_and]
      rw [UInt8.toNat_ofNat']; omega)
    rw [List.length_map] at k
    exact k
set_option maxRecDepth 20000 in
theorem m0_range (s : ByteArray) (a z : Nat) : 0 ≤ m0 (byt s a) z ∧ m0 (byt s a) z < 256 := by
  have := byt_range s a
  unfold m0; (repeat' split) <;> omega
set_option maxRecDepth 20000 in
theorem acc_lt (s : ByteArray) (a : Nat) (p : Int) (h0 : 0 ≤ p) (h1 : p < 256) : ∀ k, k ≤ 3 → 0 ≤ acc s a p k ∧ acc s a p k < 67108864 := by
  intro k hk
  match k, hk with
  | 0, _ => simp [acc]; omega
  | 1, _ => simp only [acc]; omega
  | 2, _ => simp only [acc]; omega
  | 3, _ => simp only [acc]; omega

set_option maxRecDepth 20000 in
theorem number_any (s : ByteArray) (a z : Nat) (av zv : Int) (w : World) (hav : av = a) (hzv : zv = z) (hz1 : 1 ≤ z) (hz4 : z ≤ 4) (hs : s.size ≤ maxLen) (ha : a + z ≤ s.size) :
    Calls Tryd.prog 57 #[.string s, .int .i64 av, .int .i64 zv] w fun e w' => e = .returned (.int .i64 (numN s a z)) ∧ w = w' := by
  subst hav
  unfold maxLen at hs
  have hlt : a < s.size := by omega
  have hbk := byt_eq s a hlt
  have hbr := byt_range s a
  have HM0 := Lib.hid (m0_range s a z)
  obtain ⟨b, hb⟩ : ∃ b, b = byt s a := ⟨_, rfl⟩
  rw [← hb] at hbk hbr
  have HB := Lib.hid hb
  have HN : Hid (numN s a z = acc s (a + 1) (m0 b z) (z - 1)) := Lib.hid (by rw [hb]; rfl)
  have hMB : m0 b z = if z = 2 then b % 32 else if z = 3 then b % 16 else if z = 4 then b % 8 else b := rfl
  obtain ⟨m, hm⟩ : ∃ m, m = m0 b z := ⟨_, rfl⟩
  rw [← hm] at HN hMB
  have HMR : Hid (0 ≤ m ∧ m < 256) := Lib.hid (by rw [hm, hb]; exact HM0.out)
  clear hm hb HM0
  rcases (show z = 1 ∨ z = 2 ∨ z = 3 ∨ z = 4 by omega) with rfl | rfl | rfl | rfl
  · simp at hMB
    obtain rfl : zv = 1 := by omega
    have HMB := Lib.hid hMB
    clear hMB hzv
    go_enter Tryd.func57, Tryd.ntmps57
    go_wp2_with fail
    rw [← HMB.out]
    go_loopw [7, 8] (fun n i wr => ∃ j : Nat, j + 1 ≤ 1 ∧ i = .int .i64 ((j : Int) + 1) ∧ n = .int .i64 (acc s (a + 1) m j) ∧ w = wr) (fun _ i _ => 1 - (intOf i).toNat)
    case atStart => exact ⟨0, by omega, rfl, rfl, rfl⟩
    case round =>
      obtain ⟨j, hj, rfl, rfl, rfl⟩ := hrel
      by_cases hlt : j + 1 < 1
      · omega
      · obtain rfl : j = 0 := by omega
        go_wp2_with fail
        go_ret
        exact ⟨ret_int HN.out.symm, rfl⟩
  · simp at hMB
    obtain rfl : zv = 2 := by omega
    have HMB := Lib.hid hMB
    clear hMB hzv
    go_enter Tryd.func57, Tryd.ntmps57
    go_wp2_with fail
    rw [← HMB.out]
    go_loopw [7, 8] (fun n i wr => ∃ j : Nat, j + 1 ≤ 2 ∧ i = .int .i64 ((j : Int) + 1) ∧ n = .int .i64 (acc s (a + 1) m j) ∧ w = wr) (fun _ i _ => 2 - (intOf i).toNat)
    case atStart => exact ⟨0, by omega, rfl, rfl, rfl⟩
    case round =>
      obtain ⟨j, hj, rfl, rfl, rfl⟩ := hrel
      by_cases hlt : j + 1 < 2
      · have hin : a + 1 + j < s.size := by omega
        have hbj := byt_eq s (a + 1 + j) hin
        have hrj := byt_range s (a + 1 + j)
        have hac := acc_lt s (a + 1) m HMR.out.1 HMR.out.2 j (by omega)
        have hstep : acc s (a + 1) m (j + 1) = acc s (a + 1) m j * 64 + byt s (a + 1 + j) % 64 := rfl
        obtain ⟨x, hx⟩ : ∃ x, x = byt s (a + 1 + j) := ⟨_, rfl⟩
        obtain ⟨y, hy⟩ : ∃ y, y = acc s (a + 1) m j := ⟨_, rfl⟩
        rw [← hx] at hbj hrj hstep
        rw [← hy] at hac hstep
        rw [← hy]
        have HST := Lib.hid hstep
        have hlt' : (j : Int) + 1 < 2 := by omega
        have hnat : a + (j + 1) = a + 1 + j := by omega
        clear hx hy hstep
        go_wp2_with fail
        go_roundw
        case rel => exact ⟨j + 1, by omega, by go_num, by rw [HST.out]; go_num, trivial⟩
        case measure => simp [intOf]; omega
      · obtain rfl : j = 1 := by omega
        go_wp2_with fail
        go_ret
        exact ⟨ret_int HN.out.symm, rfl⟩
  · simp at hMB
    obtain rfl : zv = 3 := by omega
    have HMB := Lib.hid hMB
    clear hMB hzv
    go_enter Tryd.func57, Tryd.ntmps57
    go_wp2_with fail
    rw [← HMB.out]
    go_loopw [7, 8] (fun n i wr => ∃ j : Nat, j + 1 ≤ 3 ∧ i = .int .i64 ((j : Int) + 1) ∧ n = .int .i64 (acc s (a + 1) m j) ∧ w = wr) (fun _ i _ => 3 - (intOf i).toNat)
    case atStart => exact ⟨0, by omega, rfl, rfl, rfl⟩
    case round =>
      obtain ⟨j, hj, rfl, rfl, rfl⟩ := hrel
      by_cases hlt : j + 1 < 3
      · have hin : a + 1 + j < s.size := by omega
        have hbj := byt_eq s (a + 1 + j) hin
        have hrj := byt_range s (a + 1 + j)
        have hac := acc_lt s (a + 1) m HMR.out.1 HMR.out.2 j (by omega)
        have hstep : acc s (a + 1) m (j + 1) = acc s (a + 1) m j * 64 + byt s (a + 1 + j) % 64 := rfl
        obtain ⟨x, hx⟩ : ∃ x, x = byt s (a + 1 + j) := ⟨_, rfl⟩
        obtain ⟨y, hy⟩ : ∃ y, y = acc s (a + 1) m j := ⟨_, rfl⟩
        rw [← hx] at hbj hrj hstep
        rw [← hy] at hac hstep
        rw [← hy]
        have HST := Lib.hid hstep
        have hlt' : (j : Int) + 1 < 3 := by omega
        have hnat : a + (j + 1) = a + 1 + j := by omega
        clear hx hy hstep
        go_wp2_with fail
        go_roundw
        case rel => exact ⟨j + 1, by omega, by go_num, by rw [HST.out]; go_num, trivial⟩
        case measure => simp [intOf]; omega
      · obtain rfl : j = 2 := by omega
        go_wp2_with fail
        go_ret
        exact ⟨ret_int HN.out.symm, rfl⟩
  · simp at hMB
    obtain rfl : zv = 4 := by omega
    have HMB := Lib.hid hMB
    clear hMB hzv
    go_enter Tryd.func57, Tryd.ntmps57
    go_wp2_with fail
    rw [← HMB.out]
    go_loopw [7, 8] (fun n i wr => ∃ j : Nat, j + 1 ≤ 4 ∧ i = .int .i64 ((j : Int) + 1) ∧ n = .int .i64 (acc s (a + 1) m j) ∧ w = wr) (fun _ i _ => 4 - (intOf i).toNat)
    case atStart => exact ⟨0, by omega, rfl, rfl, rfl⟩
    case round =>
      obtain ⟨j, hj, rfl, rfl, rfl⟩ := hrel
      by_cases hlt : j + 1 < 4
      · have hin : a + 1 + j < s.size := by omega
        have hbj := byt_eq s (a + 1 + j) hin
        have hrj := byt_range s (a + 1 + j)
        have hac := acc_lt s (a + 1) m HMR.out.1 HMR.out.2 j (by omega)
        have hstep : acc s (a + 1) m (j + 1) = acc s (a + 1) m j * 64 + byt s (a + 1 + j) % 64 := rfl
        obtain ⟨x, hx⟩ : ∃ x, x = byt s (a + 1 + j) := ⟨_, rfl⟩
        obtain ⟨y, hy⟩ : ∃ y, y = acc s (a + 1) m j := ⟨_, rfl⟩
        rw [← hx] at hbj hrj hstep
        rw [← hy] at hac hstep
        rw [← hy]
        have HST := Lib.hid hstep
        have hlt' : (j : Int) + 1 < 4 := by omega
        have hnat : a + (j + 1) = a + 1 + j := by omega
        clear hx hy hstep
        go_wp2_with fail
        go_roundw
        case rel => exact ⟨j + 1, by omega, by go_num, by rw [HST.out]; go_num, trivial⟩
        case measure => simp [intOf]; omega
      · obtain rfl : j = 3 := by omega
        go_wp2_with fail
        go_ret
        exact ⟨ret_int HN.out.symm, rfl⟩
set_option maxRecDepth 20000 in
theorem str_eq (x y : ByteArray) : (x.toList == y.toList) = decide (x = y) := by
  rw [ByteArray.toList_eq, ByteArray.toList_eq, Bool.eq_iff_iff]
  simp only [beq_iff_eq, decide_eq_true_eq]
  exact ⟨fun h => ByteArray.ext (Array.toList_inj.1 h), fun h => by rw [h]⟩
set_option maxRecDepth 20000 in
theorem bytes_conv (p : Int) (w : World) (h0 : 0 ≤ p) (h1 : p < 1114112) :
    Calls Tryd.prog 59 #[.int .i64 p] w fun e w' => ∃ v, e = .returned v ∧ (convert 48 9 v).run Tryd.prog w' = .ok (.string (mkB (enc p))) w' ∧ (convert 48 9 v).run Tryd.prog w'.drew = .ok (.string (mkB (enc p))) w'.drew ∧ Hid (Below w.heap.size w w') := by
  refine (bytes_any p w h0 h1).mono ?_
  rintro e w' ⟨rfl, cs, hcs, rfl⟩
  have hl : cs.size = (enc p).length := by rw [← Array.length_toList, hcs, List.length_map]
  have ho := World.ownsRow_lit (base := w.heap.size) (e := 5) (size := 1) w cs (enc p).length (Nat.le_refl _) (by have := enc_len p; unfold maxLen; omega) (by rw [hl, Nat.mul_one])
  rw [hcs] at ho
  have hr := enc_range h0 h1
  exact ⟨_, rfl, conv_own ho hr, conv_own (World.ownsRow.drew ho) hr, (Below.refl _ w).alloc (Nat.le_refl _) _⟩

set_option maxRecDepth 20000 in
theorem one_end {n n' : Int} {x y : ByteArray} {g : Bool} {w w1 w' : World} (hn : n' = n) (hg : g = decide (x = y)) (hb : Hid (Below w.heap.size w w1)) (hd : w' = w1 ∨ w' = w1.drew) :
    Ending.returned (.tuple #[.int .i64 n, .bool (x.toList == y.toList)]) = .returned (.tuple #[.int .i64 n', .bool g]) ∧ Below w.heap.size w w' := by
  refine ⟨by rw [hn, hg, str_eq], ?_⟩
  rcases hd with rfl | rfl
  · exact hb.out
  · exact hb.out.drew

set_option maxRecDepth 20000 in
theorem one_out (s : ByteArray) (i : Int) (z : Nat) (w : World) (hz1 : 1 ≤ z) (hz4 : z ≤ 4) (hs : s.size ≤ maxLen) (i1 : i ≤ 9223372036854775800) (hin : ¬ (0 ≤ i ∧ i + z ≤ s.size)) :
    Calls Tryd.prog 47 #[.string s, .int .i64 i, .int .i64 (z : Int)] w fun e w' => e = .returned (.tuple #[.int .i64 0, .bool false]) ∧ Below w.heap.size w w' := by
  have hm := hs
  unfold maxLen at hm
  by_cases h0 : i < 0
  · clear hin
    go_enter Tryd.func47, Tryd.ntmps47
    go_wp2_with fail
    go_ret2
    exact ⟨rfl, Below.refl _ _⟩
  · have h1 : (s.size : Int) < i + (z : Int) := by omega
    have hw0 : IntKind.i64.wrap (i + (z : Int)) = i + (z : Int) := by rw [IntKind.wrap_i64]; omega
    clear hin
    go_enter Tryd.func47, Tryd.ntmps47
    go_wp2_with fail
    go_ret2
    exact ⟨rfl, Below.refl _ _⟩
set_option maxRecDepth 20000 in
theorem is_false (p : Int) (w : World) (h : isPt p = false) : Calls Tryd.prog 58 #[.int .i64 p] w fun e w' => e = .returned (.bool false) ∧ w' = w :=
  (is_any p w).mono fun _ _ hh => ⟨by rw [hh.1, h], hh.2.symm⟩
set_option maxRecDepth 20000 in
theorem one_no (s : ByteArray) (a z : Nat) (w : World) (hz1 : 1 ≤ z) (hz4 : z ≤ 4) (hs : s.size ≤ maxLen) (haz : a + z ≤ s.size) (hp : isPt (numN s a z) = false) :
    Calls Tryd.prog 47 #[.string s, .int .i64 (a : Int), .int .i64 (z : Int)] w fun e w' => e = .returned (.tuple #[.int .i64 (numN s a z), .bool (tpB s a z)]) ∧ Below w.heap.size w w' := by
  have hm := hs
  unfold maxLen at hm
  have hh1 : ¬ (s.size : Int) < (a : Int) + (z : Int) := by omega
  obtain ⟨n, hn⟩ : ∃ n, n = numN s a z := ⟨_, rfl⟩
  have HN : Hid (numN s a z = n) := hn.symm
  rw [← hn] at hp
  have HO : Hid (tpB s a z = false) := Lib.hid (by unfold tpB; rw [← hn, hp, Bool.false_and])
  have HPT := Lib.hid hp
  clear hn hp
  go_enter Tryd.func47, Tryd.ntmps47
  go_wp2_with fail
  refine (number_any s a z _ _ _ rfl rfl hz1 hz4 hs haz).mono ?_
  rintro e w1 ⟨rfl, rfl⟩
  rw [HN.out]
  clear hh1 haz hm
  go_wp2_with fail
  go_quiet (first | (go_at_call 58; exact Calls.quiet_of_same (is_false _ _ HPT.out)))
  go_wp2_with fail
  go_ret2
  exact ⟨by rw [HN.out, HO.out]; rfl, below_drewN0 (Below.refl _ _) _⟩
set_option maxHeartbeats 8000000 in
set_option maxRecDepth 20000 in
theorem one_yes (s : ByteArray) (a z : Nat) (w : World) (hz1 : 1 ≤ z) (hz4 : z ≤ 4) (hs : s.size ≤ maxLen) (haz : a + z ≤ s.size) (hp : isPt (numN s a z) = true) :
    Calls Tryd.prog 47 #[.string s, .int .i64 (a : Int), .int .i64 (z : Int)] w fun e w' => e = .returned (.tuple #[.int .i64 (numN s a z), .bool (tpB s a z)]) ∧ Below w.heap.size w w' := by
  have hm := hs
  unfold maxLen at hm
  have hh1 : ¬ (s.size : Int) < (a : Int) + (z : Int) := by omega
  obtain ⟨n, hn⟩ : ∃ n, n = numN s a z := ⟨_, rfl⟩
  have HN : Hid (numN s a z = n) := hn.symm
  rw [← hn] at hp
  have hr := isPt_range hp
  have HO : Hid (tpB s a z = ((mkB (enc n)).toList == (s.extract a (a + z)).toList)) := Lib.hid (by rw [str_eq]; unfold tpB; rw [← hn, hp, Bool.true_and])
  have HPT := Lib.hid hp
  clear hn hp
  go_enter Tryd.func47, Tryd.ntmps47
  go_wp2_with fail
  refine (number_any s a z _ _ _ rfl rfl hz1 hz4 hs haz).mono ?_
  rintro e w1 ⟨rfl, rfl⟩
  rw [HN.out]
  have hw0 : IntKind.i64.wrap ((a : Int) + (z : Int)) = ((a + z : Nat) : Int) := by rw [IntKind.wrap_i64]; omega
  have haz2 : a ≤ a + z := by omega
  go_wp2_with fail
  go_region_with (first | (go_at_call 58; refine (is_any _ _).mono ?_; rintro e w2 ⟨rfl, rfl⟩; rw [HPT.out]) | (go_at_call 59; refine (bytes_conv _ _ hr.1 hr.2).mono ?_; rintro e w2 ⟨v, rfl, hc1, hc2, hb⟩))
  all_goals (go_wp2_with fail)
  all_goals go_ret2
  all_goals refine ⟨by rw [HN.out, HO.out]; rfl, ?_⟩
  all_goals first | exact hb.out | exact hb.out.drew | exact (Below.refl _ w).drew.trans hb.out | exact ((Below.refl _ w).drew.trans hb.out).drew
set_option maxRecDepth 20000 in
theorem one_any (s : ByteArray) (i : Int) (z : Nat) (zv : Int) (w : World) (hzv : zv = z) (hz1 : 1 ≤ z) (hz4 : z ≤ 4) (hs : s.size ≤ maxLen) (_i0 : -9223372036854775808 ≤ i) (i1 : i ≤ 9223372036854775800) :
    Calls Tryd.prog 47 #[.string s, .int .i64 i, .int .i64 zv] w fun e w' => e = .returned (.tuple #[.int .i64 (tpP s i z), .bool (tpI s i z)]) ∧ Below w.heap.size w w' := by
  subst hzv
  by_cases hin : 0 ≤ i ∧ i + z ≤ s.size
  · have hP : tpP s i z = numN s i.toNat z := by unfold tpP; rw [if_pos hin]
    have hI : tpI s i z = tpB s i.toNat z := by unfold tpI; rw [if_pos hin]
    rw [hP, hI]
    obtain ⟨a, rfl⟩ := Int.eq_ofNat_of_zero_le hin.1
    rw [Int.toNat_natCast]
    cases hp : isPt (numN s a z)
    · exact one_no s a z w hz1 hz4 hs (by omega) hp
    · exact one_yes s a z w hz1 hz4 hs (by omega) hp
  · have hP : tpP s i z = 0 := by unfold tpP; rw [if_neg hin]
    have hI : tpI s i z = false := by unfold tpI; rw [if_neg hin]
    rw [hP, hI]
    exact one_out s i z w hz1 hz4 hs i1 hin
end Go.Proofs.YtolegmlfmlfbhaaDoor
/- Plain facts of layer 3: which cells are a value. No program in sight. -/
namespace Go.Proofs.YtolegmlfmlfbhaaDoor
open Go.RowKit
/-- A cell. -/
structure CR where
  k : Nat
  nm : ByteArray
  tx : ByteArray
  n : Int
  m : Int
instance : Inhabited CR := ⟨⟨0, ⟨#[]⟩, ⟨#[]⟩, 0, 0⟩⟩
def em (s : ByteArray) : Bool := decide (s.size = 0)
def letB (b : UInt8) : Bool := b == 95 || (97 ≤ b && b ≤ 122) || (65 ≤ b && b ≤ 90)
def dgB (b : UInt8) : Bool := 48 ≤ b && b ≤ 57
def nmL : List UInt8 → Bool
  | [] => false
  | b :: r => letB b && r.all fun c => letB c || dgB c
def nmB (s : ByteArray) : Bool := nmL s.data.toList
def ckB (s : ByteArray) : Bool := decide (ckE s = 0)
/-- May a cell be, but for its name? -/
def oneP (c : CR) : Bool :=
  if c.k = 0 then em c.tx && decide (c.m = 0) && decide (c.n = 0)
  else if c.k = 1 then em c.tx && decide (c.m = 0) && (decide (c.n = 0) || decide (c.n = 1))
  else if c.k = 2 then em c.tx && decide (c.m = 0)
  else if c.k = 3 then decide (c.n = 0) && decide (c.m = 0) && ckB c.tx
  else if c.k = 4 ∨ c.k = 5 then decide (c.n = 0) && decide (c.m = 0) && nmB c.tx
  else if c.k = 6 ∨ c.k = 7 then decide (c.n = 0) && em c.tx && decide (0 ≤ c.m)
  else false
def headP (c : CR) : Bool := decide (c.k = 6) || decide (c.k = 7)
/-- May an item, a member have that name? -/
def namedP (obj : Bool) (names : List ByteArray) (s : ByteArray) : Bool :=
  if obj then !names.any (fun x => decide (x = s)) && !em s && ckB s else em s
/-- Behind so many values, one behind the other. -/
def kidsF (w : Nat → Option Nat) (g : Nat → CR) (n : Nat) (obj : Bool) : Nat → List ByteArray → Nat → Option Nat
  | 0, _, a => some a
  | m + 1, names, a =>
    if n ≤ a then none else if namedP obj names (g a).nm then
      match w a with
      | none => none
      | some a' => kidsF w g n obj m (if obj then (g a).nm :: names else names) a'
    else none
/-- Behind the value that begins at a place, with at most so many in each other. -/
def wk (g : Nat → CR) (n : Nat) : Nat → Nat → Option Nat
  | 0, a => if n ≤ a then none else if oneP (g a) && !headP (g a) then some (a + 1) else none
  | r + 1, a => if n ≤ a then none else if oneP (g a) then
      if headP (g a) then kidsF (wk g n r) g n (decide ((g a).k = 7)) (g a).m.toNat [] (a + 1) else some (a + 1)
    else none
/-- Are cells a value? -/
def ckC (g : Nat → CR) (n : Nat) : Bool := decide (0 < n) && decide (n ≤ 2048) && em (g 0).nm && decide (wk g n 16 0 = some n)
theorem wk_z (g : Nat → CR) (n a : Nat) : wk g n 0 a = if n ≤ a then none else if oneP (g a) && !headP (g a) then some (a + 1) else none := rfl
theorem wk_s (g : Nat → CR) (n r a : Nat) : wk g n (r + 1) a = if n ≤ a then none else if oneP (g a) then
      if headP (g a) then kidsF (wk g n r) g n (decide ((g a).k = 7)) (g a).m.toNat [] (a + 1) else some (a + 1)
    else none := rfl
theorem kidsF_lt {w : Nat → Option Nat} {g : Nat → CR} {n : Nat} {obj : Bool} (hw : ∀ a e, w a = some e → a < e ∧ e ≤ n) : ∀ (m : Nat) (names : List ByteArray) (a e : Nat), a ≤ n → kidsF w g n obj m names a = some e → a + m ≤ e ∧ e ≤ n
  | 0, _, a, e, ha, h => by simp [kidsF] at h; omega
  | m + 1, names, a, e, ha, h => by
    rw [kidsF] at h
    split at h
    · cases h
    · split at h
      · cases hx : w a with
        | none => rw [hx] at h; cases h
        | some a' =>
          rw [hx] at h
          have h1 := hw a a' hx
          have h2 := kidsF_lt hw m _ a' e h1.2 h
          omega
      · cases h
theorem wk_lt {g : Nat → CR} {n : Nat} : ∀ (r a e : Nat), wk g n r a = some e → a < e ∧ e ≤ n
  | 0, a, e, h => by
    rw [wk] at h
    split at h
    · cases h
    · split at h
      · cases h; omega
      · cases h
  | r + 1, a, e, h => by
    rw [wk] at h
    split at h
    · cases h
    · split at h
      · split at h
        · have := kidsF_lt (wk_lt r) _ _ _ _ (by omega) h
          omega
        · cases h; omega
      · cases h
theorem kidsF_mono {w w' : Nat → Option Nat} {g : Nat → CR} {n : Nat} {obj : Bool} (hw : ∀ a e, w a = some e → w' a = some e) : ∀ (m : Nat) (names : List ByteArray) (a e : Nat), kidsF w g n obj m names a = some e → kidsF w' g n obj m names a = some e
  | 0, _, a, e, h => h
  | m + 1, names, a, e, h => by
    rw [kidsF] at h ⊢
    split at h
    · cases h
    · rename_i h1
      rw [if_neg h1]
      split at h
      · rename_i h2
        rw [if_pos h2]
        cases hx : w a with
        | none => rw [hx] at h; cases h
        | some a' =>
          rw [hx] at h
          rw [hw a a' hx]
          exact kidsF_mono hw m _ a' e h
      · cases h
theorem wk_succ {g : Nat → CR} {n : Nat} : ∀ (r a e : Nat), wk g n r a = some e → wk g n (r + 1) a = some e
  | 0, a, e, h => by
    rw [wk_z] at h
    rw [wk_s]
    split at h
    · cases h
    · rename_i h1
      rw [if_neg h1]
      split at h
      · rename_i h2
        simp only [Bool.and_eq_true, Bool.not_eq_true'] at h2
        rw [if_pos h2.1, if_neg (by rw [h2.2]; simp)]
        exact h
      · cases h
  | r + 1, a, e, h => by
    rw [wk_s] at h
    rw [wk_s]
    split at h
    · cases h
    · rename_i h1
      rw [if_neg h1]
      split at h
      · rename_i h2
        rw [if_pos h2]
        split at h
        · rename_i h3
          rw [if_pos h3]
          exact kidsF_mono (wk_succ r) _ _ _ _ h
        · rename_i h3
          rw [if_neg h3]
          exact h
      · cases h
theorem wk_up {g : Nat → CR} {n : Nat} {r r' a e : Nat} (hr : r ≤ r') (h : wk g n r a = some e) : wk g n r' a = some e := by
  obtain ⟨d, rfl⟩ : ∃ d, r' = r + d := ⟨r' - r, by omega⟩
  clear hr
  induction d with
  | zero => exact h
  | succ d ih => exact wk_succ _ _ _ ih
/-- So many values, one behind the other. -/
def Chain (g : Nat → CR) (n : Nat) : Nat → Nat → Nat → Prop
  | 0, a, e => a = e
  | o + 1, a, e => ∃ a', wk g n 16 a = some a' ∧ Chain g n o a' e
theorem Chain.le {g : Nat → CR} {n : Nat} : ∀ (o a e : Nat), Chain g n o a e → a + o ≤ e ∧ (e = a ∨ e ≤ n)
  | 0, a, e, h => by have : a = e := h; omega
  | o + 1, a, e, h => by
    obtain ⟨a', h1, h2⟩ := h
    have h3 := wk_lt _ _ _ h1
    have h4 := Chain.le o a' e h2
    omega
theorem Chain.add {g : Nat → CR} {n : Nat} : ∀ (o p a b e : Nat), Chain g n o a b → Chain g n p b e → Chain g n (o + p) a e
  | 0, p, a, b, e, h, k => by have : a = b := h; subst this; simpa using k
  | o + 1, p, a, b, e, h, k => by
    obtain ⟨a', h1, h2⟩ := h
    rw [show o + 1 + p = (o + p) + 1 by omega]
    exact ⟨a', h1, Chain.add o p a' b e h2 k⟩
theorem kidsF_chain {g : Nat → CR} {n r : Nat} {obj : Bool} (hr : r ≤ 16) : ∀ (m : Nat) (names : List ByteArray) (a e : Nat), kidsF (wk g n r) g n obj m names a = some e → Chain g n m a e
  | 0, _, a, e, h => by simp [kidsF] at h; exact h
  | m + 1, names, a, e, h => by
    rw [kidsF] at h
    split at h
    · cases h
    · split at h
      · cases hx : wk g n r a with
        | none => rw [hx] at h; cases h
        | some a' =>
          rw [hx] at h
          exact ⟨a', wk_up hr hx, kidsF_chain hr m _ a' e h⟩
      · cases h
theorem one_leaf {c : CR} (h1 : oneP c = true) (h2 : headP c = false) : c.m = 0 := by
  unfold oneP at h1
  simp only [headP, Bool.or_eq_false_iff, decide_eq_false_iff_not] at h2
  repeat' split at h1
  all_goals first
    | cases h1
    | (simp only [Bool.and_eq_true, decide_eq_true_eq] at h1; first | exact h1.1.2 | exact h1.2 | (exfalso; omega))
theorem one_head {c : CR} (h1 : oneP c = true) (h2 : headP c = true) : c.n = 0 ∧ em c.tx = true ∧ 0 ≤ c.m ∧ (c.k = 6 ∨ c.k = 7) := by
  simp only [headP, Bool.or_eq_true, decide_eq_true_eq] at h2
  unfold oneP at h1
  rw [if_neg (by omega), if_neg (by omega), if_neg (by omega), if_neg (by omega), if_neg (by omega), if_pos h2] at h1
  simp only [Bool.and_eq_true, decide_eq_true_eq] at h1
  exact ⟨h1.1.1, h1.1.2, h1.2, h2⟩
/-- What stands at the head of a value: the values in it, one behind the other. -/
theorem wk_open {g : Nat → CR} {n r a e : Nat} (hr : r ≤ 16) (h : wk g n r a = some e) : a < n ∧ oneP (g a) = true ∧ 0 ≤ (g a).m ∧ Chain g n (g a).m.toNat (a + 1) e := by
  cases r with
  | zero =>
    rw [wk] at h
    split at h
    · cases h
    · split at h
      · rename_i h2
        simp only [Bool.and_eq_true, Bool.not_eq_true'] at h2
        have := one_leaf h2.1 h2.2
        cases h
        refine ⟨by omega, h2.1, by omega, ?_⟩
        rw [this]; rfl
      · cases h
  | succ r =>
    rw [wk] at h
    split at h
    · cases h
    · split at h
      · rename_i h2
        split at h
        · rename_i h3
          exact ⟨by omega, h2, (one_head h2 h3).2.2.1, kidsF_chain (by omega) _ _ _ _ h⟩
        · rename_i h3
          have := one_leaf h2 (by simpa using h3)
          cases h
          refine ⟨by omega, h2, by omega, ?_⟩
          rw [this]; rfl
      · cases h
/-- One round of skip. -/
theorem Chain.step {g : Nat → CR} {n o a e : Nat} (h : Chain g n (o + 1) a e) : a < n ∧ a < e ∧ 0 ≤ (g a).m ∧ Chain g n (o + (g a).m.toNat) (a + 1) e := by
  obtain ⟨a', h1, h2⟩ := h
  obtain ⟨h3, _, h4, h5⟩ := wk_open (Nat.le_refl _) h1
  have := Chain.le _ _ _ h2
  have := wk_lt _ _ _ h1
  refine ⟨h3, by omega, h4, ?_⟩
  rw [Nat.add_comm]
  exact Chain.add _ _ _ _ _ h5 h2
theorem kidsF_at {g : Nat → CR} {n r : Nat} {obj : Bool} (hw : ∀ a e, wk g n r a = some e → ∀ b, a ≤ b → b < e → ∃ e', wk g n r b = some e' ∧ e' ≤ e) : ∀ (m : Nat) (names : List ByteArray) (a e : Nat), kidsF (wk g n r) g n obj m names a = some e → ∀ b, a ≤ b → b < e → ∃ e', wk g n r b = some e' ∧ e' ≤ e
  | 0, _, a, e, h, b, h1, h2 => by simp [kidsF] at h; omega
  | m + 1, names, a, e, h, b, h1, h2 => by
    rw [kidsF] at h
    split at h
    · cases h
    · split at h
      · cases hx : wk g n r a with
        | none => rw [hx] at h; cases h
        | some a' =>
          rw [hx] at h
          have h3 := (kidsF_lt (wk_lt r) _ _ _ _ (wk_lt _ _ _ hx).2 h).1
          by_cases hb : b < a'
          · obtain ⟨e', g1, g2⟩ := hw a a' hx b h1 hb
            exact ⟨e', g1, by omega⟩
          · exact kidsF_at hw m _ a' e h b (by omega) h2
      · cases h
theorem wk_at {g : Nat → CR} {n : Nat} : ∀ (r a e : Nat), wk g n r a = some e → ∀ b, a ≤ b → b < e → ∃ e', wk g n r b = some e' ∧ e' ≤ e
  | 0, a, e, h, b, h1, h2 => by
    have hh := h
    rw [wk] at h
    split at h
    · cases h
    · split at h
      · cases h
        obtain rfl : a = b := by omega
        exact ⟨_, hh, Nat.le_refl _⟩
      · cases h
  | r + 1, a, e, h, b, h1, h2 => by
    have hh := h
    rw [wk] at h
    split at h
    · cases h
    · split at h
      · split at h
        · by_cases hb : b = a
          · subst hb; exact ⟨_, hh, Nat.le_refl _⟩
          · obtain ⟨e', g1, g2⟩ := kidsF_at (wk_at r) _ _ _ _ h b (by omega) h2
            exact ⟨e', wk_succ _ _ _ g1, g2⟩
        · cases h
          obtain rfl : a = b := by omega
          exact ⟨_, hh, Nat.le_refl _⟩
      · cases h
end Go.Proofs.YtolegmlfmlfbhaaDoor
/- Plain facts of layer 3: values in other cells. No program in sight. -/
namespace Go.Proofs.YtolegmlfmlfbhaaDoor
open Go.RowKit
/-- From i to j two rows of cells read the same, but for the first one's name (b: that, too). -/
def Alk (b : Bool) (g1 : Nat → CR) (s1 : Nat) (g2 : Nat → CR) (s2 i j : Nat) : Prop :=
  ∀ t, i ≤ t → t < j → (g1 (t + s1)).k = (g2 (t + s2)).k ∧ (g1 (t + s1)).tx = (g2 (t + s2)).tx ∧ (g1 (t + s1)).n = (g2 (t + s2)).n ∧ (g1 (t + s1)).m = (g2 (t + s2)).m ∧ ((b = true ∨ i < t) → (g1 (t + s1)).nm = (g2 (t + s2)).nm)
theorem Alk.part {b : Bool} {g1 g2 : Nat → CR} {s1 s2 i j i' j' : Nat} (h : Alk b g1 s1 g2 s2 i j) (hi : b = true ∨ i < i') (hi' : i ≤ i') (hj : j' ≤ j) (c : Bool) : Alk c g1 s1 g2 s2 i' j' := fun t h1 h2 =>
  have q := h t (by omega) (by omega)
  ⟨q.1, q.2.1, q.2.2.1, q.2.2.2.1, fun _ => q.2.2.2.2 (by rcases hi with e | e; exact .inl e; exact .inr (by omega))⟩
theorem one_alk {c d : CR} (h1 : c.k = d.k) (h2 : c.tx = d.tx) (h3 : c.n = d.n) (h4 : c.m = d.m) : oneP c = oneP d := by
  unfold oneP; rw [h1, h2, h3, h4]
theorem kidsF_shift {g1 g2 : Nat → CR} {n1 n2 s1 s2 r : Nat} {obj : Bool} (ih : ∀ i j, wk g1 n1 r (i + s1) = some (j + s1) → Alk false g1 s1 g2 s2 i j → j + s2 ≤ n2 → wk g2 n2 r (i + s2) = some (j + s2)) :
    ∀ (m : Nat) (names : List ByteArray) (i j : Nat), i + s1 ≤ n1 → kidsF (wk g1 n1 r) g1 n1 obj m names (i + s1) = some (j + s1) → Alk true g1 s1 g2 s2 i j → j + s2 ≤ n2 → kidsF (wk g2 n2 r) g2 n2 obj m names (i + s2) = some (j + s2)
  | 0, _, i, j, _, h, _, _ => by
    simp only [kidsF, Option.some.injEq] at h ⊢
    omega
  | m + 1, names, i, j, hi, h, ha, hj => by
    rw [kidsF] at h
    split at h
    · cases h
    · rename_i h1
      split at h
      · rename_i h2
        cases hx : wk g1 n1 r (i + s1) with
        | none => rw [hx] at h; cases h
        | some a' =>
          rw [hx] at h
          have h3 := wk_lt _ _ _ hx
          obtain ⟨i', rfl⟩ : ∃ i', a' = i' + s1 := ⟨a' - s1, by omega⟩
          have h4 := kidsF_lt (wk_lt r) _ _ _ _ h3.2 h
          have hn := (ha i (Nat.le_refl _) (by omega)).2.2.2.2 (.inl rfl)
          have e := ih i i' hx (ha.part (.inl rfl) (Nat.le_refl _) (by omega) false) (by omega)
          rw [kidsF, if_neg (by have := wk_lt _ _ _ hx; omega), ← hn, if_pos h2, e]
          exact kidsF_shift ih m _ i' j h3.2 h (ha.part (.inl rfl) (by omega) (Nat.le_refl _) true) hj
      · cases h
theorem wk_shift {g1 g2 : Nat → CR} {n1 n2 s1 s2 : Nat} : ∀ (r i j : Nat), wk g1 n1 r (i + s1) = some (j + s1) → Alk false g1 s1 g2 s2 i j → j + s2 ≤ n2 → wk g2 n2 r (i + s2) = some (j + s2)
  | 0, i, j, h, ha, hj => by
    have hl := wk_lt _ _ _ h
    have q := ha i (Nat.le_refl _) (by omega)
    rw [wk_z] at h ⊢
    rw [if_neg (by omega)] at h ⊢
    rw [one_alk q.1 q.2.1 q.2.2.1 q.2.2.2.1, show headP (g1 (i + s1)) = headP (g2 (i + s2)) by unfold headP; rw [q.1]] at h
    split at h
    · rename_i h2
      rw [if_pos h2]
      simp only [Option.some.injEq] at h ⊢
      omega
    · cases h
  | r + 1, i, j, h, ha, hj => by
    have hl := wk_lt _ _ _ h
    have q := ha i (Nat.le_refl _) (by omega)
    rw [wk_s] at h ⊢
    rw [if_neg (by omega)] at h ⊢
    rw [one_alk q.1 q.2.1 q.2.2.1 q.2.2.2.1, show headP (g1 (i + s1)) = headP (g2 (i + s2)) by unfold headP; rw [q.1], q.1, q.2.2.2.1] at h
    split at h
    · rename_i h2
      rw [if_pos h2]
      split at h
      · rename_i h3
        rw [if_pos h3]
        rw [show i + s1 + 1 = (i + 1) + s1 by omega] at h
        rw [show i + s2 + 1 = (i + 1) + s2 by omega]
        exact kidsF_shift (wk_shift r) _ _ _ _ (by omega) h (ha.part (.inr (by omega)) (by omega) (Nat.le_refl _) true) hj
      · rename_i h3
        rw [if_neg h3]
        simp only [Option.some.injEq] at h ⊢
        omega
    · cases h
/-- The names of an object's members are apart, and none is empty; those of items are empty. -/
theorem kidsF_names {g : Nat → CR} {n r : Nat} {obj : Bool} : ∀ (m : Nat) (names : List ByteArray) (b : Nat → Nat), kidsF (wk g n r) g n obj m names (b 0) ≠ none → (∀ i, i < m → wk g n r (b i) = some (b (i + 1))) →
    ∀ i, i < m → namedP obj [] (g (b i)).nm = true ∧ (obj = true → (∀ s ∈ names, s ≠ (g (b i)).nm) ∧ ∀ j, j < i → (g (b j)).nm ≠ (g (b i)).nm)
  | 0, _, _, _, _, i, hi => by omega
  | m + 1, names, b, h, hb, i, hi => by
    rw [kidsF] at h
    split at h
    · exact absurd rfl h
    · split at h
      · rename_i h2
        rw [hb 0 (by omega)] at h
        simp only [] at h
        have h0 : namedP obj [] (g (b 0)).nm = true ∧ (obj = true → ∀ s ∈ names, s ≠ (g (b 0)).nm) := by
          unfold namedP at h2 ⊢
          cases obj with
          | false => exact ⟨h2, fun q => by cases q⟩
          | true =>
            simp only [if_true, Bool.and_eq_true, Bool.not_eq_true', List.any_eq_false, decide_eq_true_eq] at h2
            simp only [if_true, Bool.and_eq_true, Bool.not_eq_true', List.any_nil]
            exact ⟨⟨⟨by trivial, h2.1.2⟩, h2.2⟩, fun _ s hs => h2.1.1 s hs⟩
        cases i with
        | zero => exact ⟨h0.1, fun q => ⟨h0.2 q, fun j hj => by omega⟩⟩
        | succ i =>
          have k := kidsF_names m _ (fun t => b (t + 1)) h (fun t ht => hb (t + 1) (by omega)) i (by omega)
          refine ⟨k.1, fun q => ?_⟩
          obtain ⟨k1, k2⟩ := k.2 q
          subst q
          simp only [if_true, List.mem_cons, forall_eq_or_imp] at k1
          refine ⟨k1.2, fun j hj => ?_⟩
          cases j with
          | zero => exact k1.1
          | succ j => exact k2 j (by omega)
      · exact absurd rfl h
end Go.Proofs.YtolegmlfmlfbhaaDoor
/- Plain facts of layer 3: where items and members begin; values put together. No program in sight. -/
namespace Go.Proofs.YtolegmlfmlfbhaaDoor
open Go.RowKit
theorem ckC_parts {g : Nat → CR} {n : Nat} (h : ckC g n = true) : 0 < n ∧ n ≤ 2048 ∧ em (g 0).nm = true ∧ wk g n 16 0 = some n := by
  unfold ckC at h
  simp only [Bool.and_eq_true, decide_eq_true_eq] at h
  exact ⟨h.1.1.1, h.1.1.2, h.1.2, h.2⟩
theorem ckC_mk {g : Nat → CR} {n : Nat} (h1 : 0 < n) (h2 : n ≤ 2048) (h3 : em (g 0).nm = true) (h4 : wk g n 16 0 = some n) : ckC g n = true := by
  unfold ckC
  simp only [Bool.and_eq_true, decide_eq_true_eq]
  exact ⟨⟨⟨h1, h2⟩, h3⟩, h4⟩
/-- Behind the value that begins at a place. -/
def nx (g : Nat → CR) (n a : Nat) : Nat := (wk g n 16 a).getD a
/-- Where the i-th value from a place on begins. -/
def bd (g : Nat → CR) (n a : Nat) : Nat → Nat
  | 0 => a
  | i + 1 => nx g n (bd g n a i)
theorem bd_next (g : Nat → CR) (n a : Nat) : ∀ i, bd g n a (i + 1) = bd g n (nx g n a) i
  | 0 => rfl
  | i + 1 => by show nx g n (bd g n a (i + 1)) = nx g n (bd g n (nx g n a) i); rw [bd_next g n a i]
theorem nx_some {g : Nat → CR} {n a e : Nat} (h : wk g n 16 a = some e) : nx g n a = e := by unfold nx; rw [h]; rfl
theorem bd_chain {g : Nat → CR} {n : Nat} : ∀ (m a e : Nat), Chain g n m a e → (∀ i, i < m → wk g n 16 (bd g n a i) = some (bd g n a (i + 1))) ∧ bd g n a m = e
  | 0, a, e, h => ⟨fun i hi => by omega, h⟩
  | m + 1, a, e, h => by
    obtain ⟨a', h1, h2⟩ := h
    have hn := nx_some h1
    obtain ⟨k1, k2⟩ := bd_chain m a' e h2
    refine ⟨fun i hi => ?_, by rw [bd_next, hn]; exact k2⟩
    cases i with
    | zero => show wk g n 16 a = some (nx g n a); rw [hn]; exact h1
    | succ i =>
      rw [bd_next, bd_next, hn]
      exact k1 i (by omega)
theorem chain_bd {g : Nat → CR} {n : Nat} (a : Nat) (b : Nat → Nat) : ∀ (m : Nat), (∀ i, i < m → wk g n 16 (b i) = some (b (i + 1))) → b 0 = a → ∀ i, i ≤ m → bd g n a i = b i
  | m, h, h0, 0, _ => h0.symm
  | m, h, h0, i + 1, hi => by
    show nx g n (bd g n a i) = _
    rw [chain_bd a b m h h0 i (by omega)]
    exact nx_some (h i (by omega))
/-- The members' names of an object are apart. -/
theorem names_apart {g : Nat → CR} {n r a e : Nat} (hr : r ≤ 16) (h : wk g n r a = some e) (hk : (g a).k = 7) : ∀ i, i < (g a).m.toNat → namedP true [] (g (bd g n (a + 1) i)).nm = true ∧ ∀ j, j < i → (g (bd g n (a + 1) j)).nm ≠ (g (bd g n (a + 1) i)).nm := by
  have hc := (wk_open hr h).2.2.2
  have hb := (bd_chain _ _ _ hc).1
  cases r with
  | zero =>
    rw [wk_z] at h
    have : headP (g a) = true := by simp [headP, hk]
    rw [this] at h
    simp at h
  | succ r =>
    rw [wk_s] at h
    split at h
    · cases h
    · split at h
      · rw [if_pos (by simp [headP, hk]), hk] at h
        intro i hi
        have hbr : ∀ i, i < (g a).m.toNat → wk g n r (bd g n (a + 1) i) = some (bd g n (a + 1) (i + 1)) := by
          have K : ∀ (m : Nat) (names : List ByteArray) (b : Nat → Nat), kidsF (wk g n r) g n true m names (b 0) = some e → (∀ i, i < m → wk g n 16 (b i) = some (b (i + 1))) → ∀ i, i < m → wk g n r (b i) = some (b (i + 1)) := by
            intro m
            induction m with
            | zero => intro _ _ _ _ i hi; omega
            | succ m ih =>
              intro names b hk hb i hi
              rw [kidsF] at hk
              split at hk
              · cases hk
              · split at hk
                · cases hx : wk g n r (b 0) with
                  | none => rw [hx] at hk; cases hk
                  | some a' =>
                    rw [hx] at hk
                    have e1 := wk_up (r' := 16) (by omega) hx
                    rw [hb 0 (by omega)] at e1
                    simp only [Option.some.injEq] at e1
                    cases i with
                    | zero => rw [hx, e1]
                    | succ i =>
                      rw [← e1] at hk
                      exact ih _ (fun t => b (t + 1)) hk (fun t ht => hb (t + 1) (by omega)) i (by omega)
                · cases hk
          exact K _ _ (bd g n (a + 1)) h hb
        have k := kidsF_names _ [] (bd g n (a + 1)) (by rw [show bd g n (a + 1) 0 = a + 1 from rfl, show decide ((7 : Nat) = 7) = true from rfl] at *; rw [h]; simp) hbr i hi
        exact ⟨k.1, (k.2 rfl).2⟩
      · cases h
end Go.Proofs.YtolegmlfmlfbhaaDoor
