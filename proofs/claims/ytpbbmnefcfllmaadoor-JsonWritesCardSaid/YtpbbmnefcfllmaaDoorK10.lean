import Derived.Test.YtpbbmnefcfllmaaDoorK9
import Derived.Maps.AppendAt
import Derived.OwnWalk
import Derived.Test.YtpbbmnefcfllmaaDoorShelf
import Derived.Shelf.Vars
import Derived.Deep.DeepCutAuto
import Derived.Deep.RegionWith
/- Layer 4: a text quoted behind a row; a comma. With what stays of other rows. -/
namespace Go.Proofs.YtpbbmnefcfllmaaDoor
open Go.RowKit
/-- What a row's growth leaves: all but the row, and where the row lies now. -/
def Kp (w : World) (v : Value) (w' : World) (v' : Value) : Prop := w.grownBy w' v.ownBlock ∧ (v'.ownBlock = v.ownBlock ∨ ∃ g, v'.ownBlock = some g ∧ w.heap.size ≤ g)
theorem Kp.refl (w : World) (v : Value) : Kp w v w v := ⟨World.grownBy.refl _ _, .inl rfl⟩
theorem Kp.trans {a b c : World} {v u x : Value} (h : Kp a v b u) (k : Kp b u c x) : Kp a v c x := by
  refine ⟨⟨k.1.os.trans h.1.os, k.1.tape.trans h.1.tape, k.1.output.trans h.1.output, Nat.le_trans h.1.size k.1.size, fun i hi hn => ?_⟩, ?_⟩
  · rw [k.1.block i (Nat.lt_of_lt_of_le hi h.1.size) ?_, h.1.block i hi hn]
    intro e
    rcases h.2 with h2 | ⟨g, h2, h3⟩
    · exact hn (e.trans h2)
    · rw [h2] at e
      have := Option.some.inj e
      omega
  · rcases k.2 with k2 | ⟨g, k2, k3⟩
    · rcases h.2 with h2 | ⟨g, h2, h3⟩
      · exact .inl (k2.trans h2)
      · exact .inr ⟨g, k2.trans h2, h3⟩
    · exact .inr ⟨g, k2, Nat.le_trans h.1.size k3⟩
theorem Kp.alloc {a b : World} {v u : Value} (h : Kp a v b u) (o : Obj) : Kp a v (b.alloc o) u := h.trans ⟨World.grownBy_alloc _ _ _, .inl rfl⟩
theorem Kp.drew {a b : World} {v u : Value} (h : Kp a v b u) : Kp a v b.drew u := ⟨⟨h.1.os, h.1.tape, h.1.output, h.1.size, h.1.block⟩, h.2⟩
theorem Kp.up {a b c : World} {v u : Value} (h : Kp a v b u) (k : Below b.heap.size b c) : Kp a v c u := h.trans ⟨⟨k.os, k.tape, k.output, k.size, fun i hi _ => k.block i hi⟩, .inl rfl⟩
theorem Kp.keep {a b : World} {v u : Value} (h : Kp a v b u) {k : Nat} {o : Obj} (hk : a.heap[k]? = some o) (hn : ∀ j, v.ownBlock = some j → j ≠ k) : b.heap[k]? = some o := by
  rw [h.1.block k (Array.getElem?_eq_some_iff.1 hk).1 (fun e => hn k e.symm rfl)]
  exact hk
theorem bo_run2 {w0 w : World} {v : Value} {L M : List Int} {b : Nat} (ty : TypeId) (hO : BO w0 w v L) (hb : w.heap[b]? = some (.cells (M.map (Value.int .u8)).toArray 5)) (hL : L.length + M.length ≤ 1000000000) :
    ∃ v' w', (Builtin.append_ #[34, 34] ty #[v, .slice (some ⟨b, 0, none⟩) M.length M.length]).run Tryd.prog w = .ok v' w' ∧ BO w0 w' v' (L ++ M) ∧ Kp w v w' v' := by
  obtain ⟨i, h2, h3, h4, h5⟩ := infoB
  obtain ⟨v', w', hrun, r1, r2, _, r3⟩ := run_append_own_at (P := Tryd.prog) (w := w) w0.heap.size 34 ty 5 i _ 1 1 Tryd.underlying34 h2 h3 h4 h5 rfl (by decide) v L.length (L.map (Value.int .u8)) hO.1 ⟨b, 0, none⟩ M.length M.length (M.map (Value.int .u8)) (by simp) (news_bytes hb) (by intro u hu; obtain ⟨x, _, rfl⟩ := List.mem_map.1 hu; rfl) (by unfold maxLen; omega) (by omega) hO.2.size
  refine ⟨v', w', hrun, ⟨?_, hO.2.grown r2 hO.2.size (fun k hk => ?_)⟩, r2, r3.elim .inl (fun h => .inr ⟨_, h, Nat.le_refl _⟩)⟩
  · rw [List.length_append, List.map_append]; exact r1
  · rcases hO.1.2 with ⟨rfl, _⟩ | ⟨g, cap, cur, rfl, hg, _⟩
    · cases hk
    · simp only [Value.ownBlock, Option.some.injEq] at hk
      subst hk; exact hg
theorem app_bytes2 {ops : Array Oper} {rest : List Oper} {o : Oper} {a : Act} {w0 w : World} {Q : Exit → Act → World → Prop} (hgd : o.guard = none) (s x : Operand)
    (ho : o.op = .call { callee := .builtin .append, args := #[s, x], argTypes := #[34, 34] }) (v : Value) (L M : List Int) (b : Nat) (hs : a.eval s = v) (hx : a.eval x = .slice (some ⟨b, 0, none⟩) M.length M.length) (hO : BO w0 w v L) (hb : w.heap[b]? = some (.cells (M.map (Value.int .u8)).toArray 5)) (hL : L.length + M.length ≤ 1000000000)
    (h : ∀ v' w', BO w0 w' v' (L ++ M) → Kp w v w' v' → wpList Tryd.prog ops Q rest (a.put o.dst v') w') : wpList Tryd.prog ops Q (o :: rest) a w := by
  obtain ⟨v', w', hrun, hB, hK2⟩ := bo_run2 o.type hO hb hL
  refine wpList_plain hgd fun K hK => ?_
  unfold Oper.wp
  simp [execOp, ho, resolve, invoke, builtin, hs, hx, hrun, Result.andThen]
  exact hK _ _ (h v' w' hB hK2)
theorem step_bytes2 {ops : Array Oper} {o : Oper} {a : Act} {w0 w : World} {K : Act → World → Prop} {Q : Exit → Act → World → Prop} {E : Prop} (hgd : o.guard = none) (s x : Operand)
    (ho : o.op = .call { callee := .builtin .append, args := #[s, x], argTypes := #[34, 34] }) (v : Value) (L M : List Int) (b : Nat) (hs : a.eval s = v) (hx : a.eval x = .slice (some ⟨b, 0, none⟩) M.length M.length) (hO : BO w0 w v L) (hb : w.heap[b]? = some (.cells (M.map (Value.int .u8)).toArray 5)) (hL : L.length + M.length ≤ 1000000000)
    (hK : ∀ v' w', BO w0 w' v' (L ++ M) → Kp w v w' v' → K (a.put o.dst v') w') : if Region.wanted o (yielded ops a.tmps) = true then Oper.wp Tryd.prog o a w K Q else E := by
  have hw : Region.wanted o (yielded ops a.tmps) = true := by simp [Region.wanted, hgd]
  rw [if_pos hw]
  obtain ⟨v', w', hrun, hB, hK2⟩ := bo_run2 o.type hO hb hL
  unfold Oper.wp
  simp [execOp, ho, resolve, invoke, builtin, hs, hx, hrun, Result.andThen]
  exact hK v' w' hB hK2
set_option maxRecDepth 20000 in
set_option maxHeartbeats 2000000 in
theorem jquote_app (s : ByteArray) (w0 w : World) (vv : Value) (L0 : List Int) (hO : BO w0 w vv L0) (hL0 : L0.length ≤ 100000000) (hs : s.size ≤ 100000000) : Calls Tryd.prog 15 #[vv, .string s] w fun e w' => ∃ v, e = .returned v ∧ BO w0 w' v (L0 ++ (quL s s.size ++ [34])) ∧ Kp w vv w' v := by
  have hs1 : (s.size : Int) ≤ 100000000 := by omega
  have HO := Lib.hid hO
  obtain ⟨ad0, cp0, rfl⟩ := hO.slice
  clear hO
  go_enter Tryd.func15, Tryd.ntmps15
  go_wp2_with (at_builtin; refine app_bytes2 rfl (.tmp 8) (.tmp 9) rfl (.slice ad0 L0.length cp0) L0 [34] w.heap.size (by simp [Act.eval, Act.put]) (by simp [Act.eval, Act.put]) (HO.out.alloc _) (heap_alloc_new _ _) (by simp; omega) ?_; intro v1 w1 b1 q1; have B1 : Hid (BO w0 w1 v1 (L0 ++ quL s 0)) := Lib.hid b1; have Q1 : Hid (Kp w (.slice ad0 L0.length cp0) w1 v1) := Lib.hid (((Kp.refl _ _).alloc _).trans q1); clear b1 q1)
  go_loopw [0, 5, 6, 7] (fun v0 v5 _ _ wr => ∃ (i : Nat) (v : Value), i ≤ s.size ∧ v5 = .int .i64 i ∧ v = v0 ∧ Hid (BO w0 wr v (L0 ++ quL s i)) ∧ Hid (Kp w (.slice ad0 L0.length cp0) wr v)) (fun _ v5 _ _ _ => s.size - (intOf v5).toNat)
  case atStart => exact ⟨0, _, Nat.zero_le _, rfl, rfl, B1, Q1⟩
  case round =>
    obtain ⟨i, v, hi, rfl, rfl, HB, HK⟩ := hrel
    have HL := Lib.hid (quL_len s i)
    by_cases hlt : i < s.size
    · have hlt' : (i : Int) < s.size := by omega
      have hge : (0 : Int) ≤ i := by omega
      have HQ : Hid (L0 ++ quL s (i + 1) = (L0 ++ quL s i) ++ escI (byt s i)) := Lib.hid (by rw [List.append_assoc]; rfl)
      rw [byt_nat hlt] at HQ
      have hx1 := UInt8.toNat_lt s[i]
      go_wp2_with fail
      obtain ⟨x, hx⟩ : ∃ x : Int, x = (s[i].toNat : Int) := ⟨_, rfl⟩
      rw [← hx] at HQ ⊢
      have hx0 : 0 ≤ x := by omega
      have hx2 : x < 256 := by omega
      clear hx hx1
      refine (short_any x wr).mono ?_
      rintro e w2 ⟨rfl, h2⟩
      obtain rfl : wr = w2 := h2.symm
      obtain ⟨y, hy⟩ : ∃ y, y = shortI x := ⟨_, rfl⟩
      rw [← hy]
      by_cases hy0 : y = 0
      · subst hy0
        by_cases hlo : x < 32
        · rw [esc_low hy.symm hlo] at HQ
          clear hy
          have HBD := Lib.hid HB.out.drew
          have i1 := fun W => hexL_at (x / 16) (by omega) (by omega) W .u8
          have i2 := fun W => hexL_at (x % 16) (by omega) (by omega) W .u8
          have i3 := andF x hx0 hx2
          go_wp2_with fail
          go_region_law (first
            | (refine step_bytes2 rfl (.tmp 36) (.tmp 43) rfl v (L0 ++ quL s i) [92, 117, 48, 48, hexI (x / 16), hexI (x % 16)] wr.heap.size (by simp [Act.eval, Act.put]) (by simp [Act.eval, Act.put]) (HBD.out.alloc _) (heap_alloc_new _ _) (by have := HL.out; have h0 : (L0 ++ quL s i).length = L0.length + (quL s i).length := List.length_append; simp at h0 ⊢; omega) ?_; intro v2 w2 b2 q2; rw [← HQ.out] at b2; have B2 := Lib.hid b2; have Q2 : Hid (Kp w (.slice ad0 L0.length cp0) w2 v2) := Lib.hid ((HK.out.drew.alloc _).trans q2); clear b2 q2))
          all_goals
            go_wp2_with fail
            go_roundw
            case rel => exact ⟨i + 1, _, by omega, by go_num, rfl, B2, Q2⟩
            case measure => simp [intOf]; omega
        · rw [esc_own hy.symm hlo] at HQ
          clear hy
          go_wp2_with (at_builtin; refine app_bytes2 rfl (.tmp 22) (.tmp 24) rfl v (L0 ++ quL s i) [x] wr.heap.size (by simp [Act.eval, Act.put]) (by simp [Act.eval, Act.put]) (HB.out.alloc _) (heap_alloc_new _ _) (by have := HL.out; have h0 : (L0 ++ quL s i).length = L0.length + (quL s i).length := List.length_append; simp at h0 ⊢; omega) ?_; intro v2 w2 b2 q2; rw [← HQ.out] at b2; have B2 := Lib.hid b2; have Q2 : Hid (Kp w (.slice ad0 L0.length cp0) w2 v2) := Lib.hid ((HK.out.alloc _).trans q2); clear b2 q2)
          go_roundw
          case rel => exact ⟨i + 1, _, by omega, by go_num, rfl, B2, Q2⟩
          case measure => simp [intOf]; omega
      · rw [esc_short (by rw [← hy]; exact hy0), ← hy] at HQ
        have g0 : (y != 0) = true := by simpa using hy0
        clear hy hy0
        go_wp2_with (at_builtin; refine app_bytes2 rfl (.tmp 29) (.tmp 31) rfl v (L0 ++ quL s i) [92, y] wr.heap.size (by simp [Act.eval, Act.put]) (by simp [Act.eval, Act.put]) (HB.out.alloc _) (heap_alloc_new _ _) (by have := HL.out; have h0 : (L0 ++ quL s i).length = L0.length + (quL s i).length := List.length_append; simp at h0 ⊢; omega) ?_; intro v2 w2 b2 q2; rw [← HQ.out] at b2; have B2 := Lib.hid b2; have Q2 : Hid (Kp w (.slice ad0 L0.length cp0) w2 v2) := Lib.hid ((HK.out.alloc _).trans q2); clear b2 q2)
        go_roundw
        case rel => exact ⟨i + 1, _, by omega, by go_num, rfl, B2, Q2⟩
        case measure => simp [intOf]; omega
    · have him : i = s.size := by omega
      subst him
      have hz : ¬ ((s.size : Int) < (s.size : Int)) := by omega
      go_wp2_with (at_builtin; refine app_bytes2 rfl (.tmp 45) (.tmp 46) rfl v (L0 ++ quL s s.size) [34] wr.heap.size (by simp [Act.eval, Act.put]) (by simp [Act.eval, Act.put]) (HB.out.alloc _) (heap_alloc_new _ _) (by have := HL.out; have h0 : (L0 ++ quL s s.size).length = L0.length + (quL s s.size).length := List.length_append; simp at h0 ⊢; omega) ?_; intro v2 w2 b2 q2; rw [List.append_assoc] at b2; have B2 := Lib.hid b2; have Q2 : Hid (Kp w (.slice ad0 L0.length cp0) w2 v2) := Lib.hid ((HK.out.alloc _).trans q2); clear b2 q2)
      go_ret
      exact ⟨_, rfl, B2.out, Q2.out⟩
set_option maxRecDepth 20000 in
theorem between_any (i : Nat) (w0 w : World) (vv : Value) (L : List Int) (hO : BO w0 w vv L) (hL : L.length ≤ 100000000) : Calls Tryd.prog 16 #[vv, .int .i64 (i : Nat)] w fun e w' => ∃ v, e = .returned v ∧ BO w0 w' v (if 0 < i then L ++ [44] else L) ∧ Kp w vv w' v := by
  have HO := Lib.hid hO
  clear hO
  rcases Nat.eq_zero_or_pos i with h0 | h0
  · subst h0
    go_enter Tryd.func16, Tryd.ntmps16
    go_wp2_with fail
    go_ret
    exact ⟨_, rfl, HO.out, Kp.refl _ _⟩
  · have h1 : ((i : Int) == 0) = false := by rw [beq_eq_false_iff_ne]; omega
    rw [if_pos h0]
    obtain ⟨ad0, cp0, rfl⟩ := HO.out.slice
    go_enter Tryd.func16, Tryd.ntmps16
    go_wp2_with (at_builtin; refine app_bytes2 rfl (.tmp 8) (.tmp 9) rfl (.slice ad0 L.length cp0) L [44] w.heap.size (by simp [Act.eval, Act.put]) (by simp [Act.eval, Act.put]) (HO.out.alloc _) (heap_alloc_new _ _) (by simp; omega) ?_; intro v1 w1 b1 q1; have B1 := Lib.hid b1; have Q1 : Hid (Kp w (.slice ad0 L.length cp0) w1 v1) := Lib.hid (((Kp.refl _ _).alloc _).trans q1); clear b1 q1)
    go_ret
    exact ⟨_, rfl, B1.out, Q1.out⟩
end Go.Proofs.YtpbbmnefcfllmaaDoor
/- Layer 4: how large a value's JSON is; the tables. -/
namespace Go.Proofs.YtpbbmnefcfllmaaDoor
open Go.RowKit
def i64ok (i : Int) : Prop := -9223372036854775808 ≤ i ∧ i ≤ 9223372036854775807
theorem itT_size {i : Int} (h : i64ok i) : (itT i).size ≤ 21 := Lib.itoa_length_le i h.1 h.2
theorem quT_size (s : ByteArray) : (quT s).size ≤ 6 * s.size + 2 := by
  unfold quT
  rw [mkB_size, List.length_append, List.length_singleton]
  have := quL_len s s.size
  omega
theorem app_size (a b : ByteArray) : (a ++ b).size = a.size + b.size := ByteArray.size_append
/-- Plain cells small enough. -/
structure SmJ (g : Nat → CR) (n : Nat) : Prop where
  nm : ∀ i, i < n → (g i).nm.size ≤ 3000
  tx : ∀ i, i < n → (g i).tx.size ≤ 3000
  nn : ∀ i, i < n → i64ok (g i).n
  pl : ∀ i, i < n → enB (g i) = false
theorem jki_size {V : Nat → ByteArray} {g : Nat → CR} {n : Nat} {obj : Bool} {p : Nat} (hs : SmJ g n) : ∀ k, (∀ i, i < k → bd g n (p + 1) i < n ∧ bd g n (p + 1) i < bd g n (p + 1) (i + 1) ∧ bd g n (p + 1) (i + 1) ≤ n ∧ (V (bd g n (p + 1) i)).size + 40000 * (n - bd g n (p + 1) (i + 1)) ≤ 40000 * (n - bd g n (p + 1) i) - 20000) →
    (jki V g n obj p k).size + 40000 * (n - bd g n (p + 1) k) ≤ 40000 * (n - (p + 1))
  | 0, _ => by
    show 0 + 40000 * (n - (p + 1)) ≤ _
    omega
  | k + 1, h => by
    have ih := jki_size (obj := obj) hs k (fun i hi => h i (by omega))
    obtain ⟨h1, h2, h3, h4⟩ := h k (by omega)
    have hq := quT_size (g (bd g n (p + 1) k)).nm
    have hn := hs.nm _ h1
    unfold jki
    have e1 : (if 0 < k then jki V g n obj p k ++ (⟨#[44]⟩ : ByteArray) else jki V g n obj p k).size ≤ (jki V g n obj p k).size + 1 := by
      split
      · rw [app_size]; exact Nat.le_refl _
      · omega
    have e3 : (if obj then (if 0 < k then jki V g n obj p k ++ (⟨#[44]⟩ : ByteArray) else jki V g n obj p k) ++ (quT (g (bd g n (p + 1) k)).nm ++ ⟨#[58]⟩) else (if 0 < k then jki V g n obj p k ++ (⟨#[44]⟩ : ByteArray) else jki V g n obj p k)).size ≤ (jki V g n obj p k).size + 18004 := by
      split
      · rw [app_size, app_size]
        have : (⟨#[58]⟩ : ByteArray).size = 1 := rfl
        omega
      · omega
    rw [app_size]
    omega
/-- The values in a value, one behind the other. -/
theorem kids_bd {g : Nat → CR} {n p e : Nat} (h : wk g n 16 p = some e) : (∀ i, i < (g p).m.toNat → wk g n 16 (bd g n (p + 1) i) = some (bd g n (p + 1) (i + 1))) ∧ bd g n (p + 1) (g p).m.toNat = e ∧ p < n ∧ oneP (g p) = true ∧ 0 ≤ (g p).m := by
  obtain ⟨h1, h2, h3, h4⟩ := wk_open (Nat.le_refl _) h
  obtain ⟨h5, h6⟩ := bd_chain _ _ _ h4
  exact ⟨h5, h6, h1, h2, h3⟩
theorem bd_ge {g : Nat → CR} {n a m : Nat} (h : ∀ i, i < m → wk g n 16 (bd g n a i) = some (bd g n a (i + 1))) : ∀ i, i ≤ m → a + i ≤ bd g n a i
  | 0, _ => Nat.le_refl _
  | i + 1, hi => by
    have h1 := bd_ge h i (by omega)
    have h2 := wk_lt _ _ _ (h i (by omega))
    omega
theorem jtx_size {g : Nat → CR} {n : Nat} (hs : SmJ g n) : ∀ (f p e : Nat), n - p ≤ f → wk g n 16 p = some e → (jtx g n f p).size + 40000 * (n - e) ≤ 40000 * (n - p) - 20000
  | 0, p, e, hf, hw => by
    have := wk_lt _ _ _ hw
    omega
  | f + 1, p, e, hf, hw => by
    obtain ⟨h1, h2, h3, h4, h5⟩ := kids_bd hw
    have hlt := wk_lt _ _ _ hw
    have hx := quT_size (g p).tx
    have hxt := hs.tx p h3
    have hi := itT_size (hs.nn p h3)
    have hk : ∀ obj, (jki (jtx g n f) g n obj p (g p).m.toNat).size + 40000 * (n - e) ≤ 40000 * (n - (p + 1)) := fun obj => by
      have := jki_size (V := jtx g n f) (obj := obj) (p := p) hs (g p).m.toNat (fun i hi => by
        have hb := bd_ge h1 i (by omega)
        have hl := wk_lt _ _ _ (h1 i hi)
        exact ⟨by omega, hl.1, hl.2, jtx_size hs f _ _ (by omega) (h1 i hi)⟩)
      rw [h2] at this
      exact this
    unfold jtx
    split
    · show 4 + _ ≤ _; omega
    · split
      · split
        · show 4 + _ ≤ _; omega
        · show 5 + _ ≤ _; omega
      · split
        · omega
        · split
          · omega
          · split
            · rw [app_size, app_size]
              have := hk true
              show 1 + _ + 1 + _ ≤ _
              omega
            · rw [app_size, app_size]
              have := hk false
              show 1 + _ + 1 + _ ≤ _
              omega
/-- What the tables hold: the powers of ten. -/
def Tabs (w : World) : Prop := Lib.TabIs Tryd.prog w "internal/strconv.uint64pow10" .u64 Lib.pow10Tab
theorem gPow : Tryd.prog.globalNamed "internal/strconv.uint64pow10" = some 0 := by kernel_rfl
theorem Tabs.later {w w' : World} (t : Tabs w) (h : Below w.heap.size w w') : Tabs w' :=
  var?_below h gPow (World.block_lt_of_cell? w ⟨0, 0, none⟩ (Lib.TabIs.cell t gPow 0 (by decide +kernel))) t
theorem below_new (w : World) (k : Nat) (os : Array Obj) : Below w.heap.size w (Sort.grow (w.drewN k) os) := by
  refine ⟨rfl, rfl, rfl, by simp [Sort.grow], fun i hi => ?_⟩
  show ((w.drewN k).heap ++ os)[i]? = _
  rw [Array.getElem?_append_left (by exact hi)]
  rfl
theorem swrite_any (n : Int) (w : World) (t : Tabs w) (h : i64ok n) :
    Calls Tryd.prog 14 #[.int .i64 n] w fun e w' => e = .returned (.string (itT n)) ∧ Below w.heap.size w w' := by
  go_enter Tryd.func14, Tryd.ntmps14
  go_wp2_with fail
  refine (Tryd.strconv_FormatInt_10 n h.1 h.2 _ t).mono ?_
  rintro e w1 ⟨rfl, k, os, hw⟩
  have b1 : Below w.heap.size w w1 := by rw [hw]; exact below_new _ _ _
  clear hw
  go_wp2_with fail
  go_ret
  exact ⟨rfl, b1⟩
end Go.Proofs.YtpbbmnefcfllmaaDoor
/- Layer 4: the program's write. -/
namespace Go.Proofs.YtpbbmnefcfllmaaDoor
open Go.RowKit Go.Maps
def WP (w0 : World) (L : List Int) (T : ByteArray) (e : Nat) (r : Ending) (w' : World) : Prop := ∃ v', r = .returned (.tuple #[v', .int .i64 (e : Nat)]) ∧ BO w0 w' v' (L ++ bI T)
structure LenL (k n p : Nat) : Prop where
  le : k + 40000 * (n - p) ≤ 90000000
structure SzR (k n p e : Nat) : Prop where
  le : k + 40000 * (n - e) ≤ 40000 * (n - p) - 20000
theorem BO.own_lt {w0 w : World} {v : Value} {L : List Int} (h : BO w0 w v L) : ∀ j, v.ownBlock = some j → j < w.heap.size := fun j hj => by
  rcases h.1.2 with ⟨rfl, _⟩ | ⟨g, cap, cur, rfl, hg, hc, _⟩
  · cases hj
  · simp only [Value.ownBlock, Option.some.injEq] at hj
    subst hj
    exact (Array.getElem?_eq_some_iff.1 hc).1
theorem Kp.off {w w' : World} {v v' : Value} (h : Kp w v w' v') {k : Nat} (h1 : ∀ j, v.ownBlock = some j → j < k) (h2 : k < w.heap.size) : ∀ j, v'.ownBlock = some j → j ≠ k := fun j hj => by
  rcases h.2 with e | ⟨g, e, hg⟩
  · rw [e] at hj; exact Nat.ne_of_lt (h1 j hj)
  · rw [e] at hj; have := Option.some.inj hj; omega
theorem box_many {W1 w1 : World} {v v1 : Value} {o : Obj} {k : Nat} {x0 x1 x2 x3 x4 : Value} {ty : TypeId} (q : Kp (W1.alloc o) v w1 v1) (hk : W1.heap[k]? = some (.cells #[x0, x1, x2, x3, x4] ty)) (hv : ∀ j, v.ownBlock = some j → j < k) : w1.cell? ⟨k, 4, none⟩ = some x4 := by
  have h := (((Kp.refl W1 v).alloc o).trans q).keep hk (fun j hj => Nat.ne_of_lt (hv j hj))
  simp [World.cell?, h]
theorem ret_vi {v : Value} {x y : Int} (h : x = y) : Ending.returned (.tuple #[v, .int .i64 x]) = .returned (.tuple #[v, .int .i64 y]) := by rw [h]
theorem WP.mk {w0 w' : World} {L : List Int} {T : ByteArray} {e : Nat} {v : Value} {x : Int} (h : x = (e : Nat)) (hb : BO w0 w' v (L ++ bI T)) : WP w0 L T e (.returned (.tuple #[v, .int .i64 x])) w' := ⟨v, ret_vi h, hb⟩
theorem one_kind {c : CR} (h1 : oneP c = true) (h2 : enB c = false) : c.k = 0 ∨ c.k = 1 ∨ c.k = 2 ∨ c.k = 3 ∨ c.k = 6 ∨ c.k = 7 := by
  unfold enB at h2
  simp only [Bool.or_eq_false_iff, decide_eq_false_iff_not] at h2
  unfold oneP at h1
  repeat' split at h1
  all_goals first
    | (cases h1; done)
    | omega
theorem leaf_end {g : Nat → CR} {n p e : Nat} (h : wk g n 16 p = some e) (hk : (g p).k ≠ 6) (hk7 : (g p).k ≠ 7) : e = p + 1 := by
  obtain ⟨_, h2, _, h4, _⟩ := kids_bd h
  have hm : (g p).m = 0 := one_leaf h4 (by unfold headP; simp [hk, hk7])
  rw [hm] at h2
  exact h2.symm
theorem ifl_len (i : Nat) (L : List Int) : (if 0 < i then L ++ [44] else L).length ≤ L.length + 1 := by split <;> simp
theorem jki_bI {V : Nat → ByteArray} {g : Nat → CR} {n p i : Nat} (L : List Int) : (if 0 < i then (L ++ bI (jki V g n false p i)) ++ [44] else L ++ bI (jki V g n false p i)) ++ bI (V (bd g n (p + 1) i)) = L ++ bI (jki V g n false p (i + 1)) := by
  rw [show jki V g n false p (i + 1) = (if 0 < i then jki V g n false p i ++ ⟨#[44]⟩ else jki V g n false p i) ++ V (bd g n (p + 1) i) from rfl, bI_app]
  split
  · rw [bI_app, List.append_assoc, List.append_assoc, List.append_assoc]; rfl
  · rw [List.append_assoc]
theorem jki_bIo {V : Nat → ByteArray} {g : Nat → CR} {n p i : Nat} (L : List Int) : ((if 0 < i then (L ++ bI (jki V g n true p i)) ++ [44] else L ++ bI (jki V g n true p i)) ++ (quL (g (bd g n (p + 1) i)).nm (g (bd g n (p + 1) i)).nm.size ++ [34]) ++ [58]) ++ bI (V (bd g n (p + 1) i)) = L ++ bI (jki V g n true p (i + 1)) := by
  rw [show jki V g n true p (i + 1) = ((if 0 < i then jki V g n true p i ++ ⟨#[44]⟩ else jki V g n true p i) ++ (quT (g (bd g n (p + 1) i)).nm ++ ⟨#[58]⟩)) ++ V (bd g n (p + 1) i) from rfl, bI_app, bI_app, bI_app, bI_qu]
  split
  · rw [bI_app]
    simp only [List.append_assoc]; rfl
  · simp only [List.append_assoc]; rfl
set_option maxRecDepth 20000 in
set_option maxHeartbeats 4000000 in
theorem jwrite_any (w0 : World) (t : Tabs w0) (a : Option Addr) (n cap : Nat) (g : Nat → CR) (hs : SmJ g n) (hn : n ≤ 2048) (hv : CV w0 a n g) : ∀ (f p e : Nat) (W : World) (v : Value) (L : List Int), n - p ≤ f → wk g n 16 p = some e → BO w0 W v L → L.length + 40000 * (n - p) ≤ 90000000 → Calls Tryd.prog 10 #[v, .slice a n cap, .int .i64 (p : Nat)] W (WP w0 L (jtx g n f p) e) := by
  intro f
  induction f with
  | zero => intro p e W v L h1 h2 _ _; have := wk_lt _ _ _ h2; omega
  | succ f ih =>
    intro p e W v L hf hw hO hL
    obtain ⟨hk1, hk2, hp, hone, hm0⟩ := kids_bd hw
    have hle := wk_lt _ _ _ hw
    obtain ⟨b, off, rfl⟩ := hv.addr (by omega)
    have HV := Lib.hid hv
    have HT := Lib.hid t
    have HIH := Lib.hid ih
    have HW := Lib.hid hw
    have HSM := Lib.hid hs
    obtain ⟨_, c0, c1, c2, c3, c4⟩ := (hv.below hO.2).at_ hp
    have hp0 : (0 : Int) ≤ p := by omega
    have hp1 : (p : Int) < n := by omega
    have hn1 : (n : Int) ≤ 2048 := by omega
    have HX : Hid (SzR (jtx g n (f + 1) p).size n p e) := Lib.hid ⟨jtx_size hs (f + 1) p e hf hw⟩
    have HKD := one_kind hone (hs.pl p hp)
    have HNN := Lib.hid (hs.nn p hp)
    have HTX := Lib.hid (hs.tx p hp)
    obtain ⟨R, hR⟩ : ∃ R, R = jtx g n (f + 1) p := ⟨_, rfl⟩
    rw [← hR] at HX ⊢
    unfold jtx at hR
    have HR := Lib.hid hR
    have HLE : e ≠ p + 1 → (g p).k = 6 ∨ (g p).k = 7 := fun h => by
      by_cases h6 : (g p).k = 6
      · exact .inl h6
      · by_cases h7 : (g p).k = 7
        · exact .inr h7
        · exact absurd (leaf_end hw h6 h7) h
    have HK1 := Lib.hid hk1
    have HK2 := Lib.hid hk2
    have HBG := Lib.hid (bd_ge hk1)
    have HFF := Lib.hid hf
    have HL : Hid (LenL L.length n p) := Lib.hid ⟨hL⟩
    have HPN := Lib.hid hp
    have HON := Lib.hid hone
    obtain ⟨kk, hkk⟩ : ∃ kk, kk = (g p).k := ⟨_, rfl⟩
    obtain ⟨nn, hnn⟩ : ∃ x, x = (g p).n := ⟨_, rfl⟩
    obtain ⟨mm, hmm⟩ : ∃ x, x = (g p).m := ⟨_, rfl⟩
    obtain ⟨tt, htt⟩ : ∃ x, x = (g p).tx := ⟨_, rfl⟩
    obtain ⟨ss, hss⟩ : ∃ x, x = (g p).nm := ⟨_, rfl⟩
    rw [← hkk] at c0 HKD HLE
    rw [← hss] at c1
    rw [← htt] at c2 HTX
    rw [← hnn] at c3 HNN
    rw [← hmm] at c4 HK1 HK2 HBG hm0
    rw [← hkk, ← hnn, ← hmm, ← htt] at HR
    clear hkk hnn hmm htt hss hR hv t ih hw hs hk1 hk2 hone hf hL
    obtain ⟨W1, hW1⟩ : ∃ V, V = W.alloc (.cells #[.int .u8 kk, .string ss, .string tt, .int .i64 nn, .int .i64 mm] 33) := ⟨_, rfl⟩
    have HO1 : Hid (BO w0 W1 v L) := Lib.hid (by rw [hW1]; exact hO.alloc _)
    have hblk : W1.heap[W.heap.size]? = some (.cells #[.int .u8 kk, .string ss, .string tt, .int .i64 nn, .int .i64 mm] 33) := by rw [hW1]; exact heap_alloc_new W _
    have e0 : W1.cell? ⟨W.heap.size, 0, none⟩ = some (.int .u8 kk) := by simp [World.cell?, hblk]
    have e2 : W1.cell? ⟨W.heap.size, 2, none⟩ = some (.string tt) := by simp [World.cell?, hblk]
    have e3 : W1.cell? ⟨W.heap.size, 3, none⟩ = some (.int .i64 nn) := by simp [World.cell?, hblk]
    have e4 : W1.cell? ⟨W.heap.size, 4, none⟩ = some (.int .i64 mm) := by simp [World.cell?, hblk]
    obtain ⟨ad, cp, rfl⟩ := hO.slice
    have HP1 : Hid (e ≠ p + 1 → False) ∨ (kk = 6 ∨ kk = 7) := by
      by_cases h : e = p + 1
      · exact .inl (Lib.hid (fun k => k h))
      · exact .inr (HLE h)
    have HBLK := Lib.hid hblk
    have HOWN := Lib.hid hO.own_lt
    have HEN : Hid (e ≤ n) := Lib.hid hle.2
    clear hblk hO HLE
    go_enter Tryd.func10, Tryd.ntmps10
    go_upto_region 2 with fail
    rw [← hW1]
    clear c0 c1 c2 c3 c4 hW1
    go_upto_region 3 with fail
    rcases HKD with rfl | rfl | rfl | rfl | rfl | rfl
    · have HE1 : Hid (e = p + 1) := Lib.hid (by rcases HP1 with h | h | h; exact Classical.byContradiction h.out; omega; omega)
      clear HP1
      have HE : Hid (R = (⟨#[110, 117, 108, 108]⟩ : ByteArray)) := HR
      go_wp2_with (at_builtin; refine app_text rfl (.tmp 103) (.const (.string (⟨#[110, 117, 108, 108]⟩ : ByteArray))) rfl (.slice ad L.length cp) L (⟨#[110, 117, 108, 108]⟩ : ByteArray) (by simp [Act.eval, Act.put]) (by simp [Act.eval, Act.put]) HO1.out (by have := HL.out.le; show _ + 4 ≤ _; omega) ?_; intro v1 w1 b1; rw [← HE.out] at b1; have B1 := Lib.hid b1; clear b1)
      go_ret2
      exact WP.mk (by have := HE1.out; omega) B1.out
    · have HE1 : Hid (e = p + 1) := Lib.hid (by rcases HP1 with h | h | h; exact Classical.byContradiction h.out; omega; omega)
      clear HP1
      by_cases hz : nn = 1
      · subst hz
        have HE : Hid (R = (⟨#[116, 114, 117, 101]⟩ : ByteArray)) := HR
        go_wp2_with (at_builtin; refine app_text rfl (.tmp 25) (.const (.string (⟨#[116, 114, 117, 101]⟩ : ByteArray))) rfl (.slice ad L.length cp) L (⟨#[116, 114, 117, 101]⟩ : ByteArray) (by simp [Act.eval, Act.put]) (by simp [Act.eval, Act.put]) HO1.out (by have := HL.out.le; show _ + 4 ≤ _; omega) ?_; intro v1 w1 b1; rw [← HE.out] at b1; have B1 := Lib.hid b1; clear b1)
        go_ret2
        exact WP.mk (by have := HE1.out; omega) B1.out
      · have HE : Hid (R = (⟨#[102, 97, 108, 115, 101]⟩ : ByteArray)) := Lib.hid (by rw [HR.out, if_neg (by decide), if_pos rfl, if_neg hz])
        have g0 : (nn == 1) = false := by rw [beq_eq_false_iff_ne]; exact hz
        clear hz HR
        go_wp2_with (at_builtin; refine app_text rfl (.tmp 28) (.const (.string (⟨#[102, 97, 108, 115, 101]⟩ : ByteArray))) rfl (.slice ad L.length cp) L (⟨#[102, 97, 108, 115, 101]⟩ : ByteArray) (by simp [Act.eval, Act.put]) (by simp [Act.eval, Act.put]) HO1.out (by have := HL.out.le; show _ + 5 ≤ _; omega) ?_; intro v1 w1 b1; rw [← HE.out] at b1; have B1 := Lib.hid b1; clear b1)
        go_ret2
        exact WP.mk (by have := HE1.out; omega) B1.out
    · have HE1 : Hid (e = p + 1) := Lib.hid (by rcases HP1 with h | h | h; exact Classical.byContradiction h.out; omega; omega)
      clear HP1
      have HE : Hid (R = itT nn) := HR
      have HC := Lib.hid (swrite_any nn W1 (HT.out.later HO1.out.2) HNN.out)
      have hzz := itT_size (i := nn) HNN.out
      obtain ⟨T, hT⟩ : ∃ T, T = itT nn := ⟨_, rfl⟩
      rw [← hT] at HE HC hzz
      have HZ := Lib.hid hzz
      clear HR hT hzz
      go_wp2_with fail
      refine HC.out.mono ?_
      rintro r w2 ⟨rfl, b2⟩
      have HO2 := Lib.hid (HO1.out.up b2)
      clear b2
      go_wp2_with (at_builtin; refine app_text rfl (.tmp 33) (.tmp 36) rfl (.slice ad L.length cp) L T (by simp [Act.eval, Act.put]) (by simp [Act.eval, Act.put]) HO2.out (by have := HL.out.le; have := HZ.out; omega) ?_; intro v1 w1 b1; rw [← HE.out] at b1; have B1 := Lib.hid b1; clear b1)
      go_ret2
      exact WP.mk (by have := HE1.out; omega) B1.out
    · have HE1 : Hid (e = p + 1) := Lib.hid (by rcases HP1 with h | h | h; exact Classical.byContradiction h.out; omega; omega)
      clear HP1
      have HE : Hid (R = quT tt) := HR
      have HC := Lib.hid (jquote_app tt w0 W1 _ L HO1.out (by have := HL.out.le; omega) (by have := HTX.out; omega))
      have HB : Hid (L ++ bI R = L ++ (quL tt tt.size ++ [34])) := Lib.hid (by rw [HE.out, bI_qu])
      clear HR HE
      go_wp2_with fail
      refine HC.out.mono ?_
      rintro r w2 ⟨v2, rfl, b2, _⟩
      rw [← HB.out] at b2
      have B1 := Lib.hid b2
      clear b2
      go_wp2_with fail
      go_ret2
      exact WP.mk (by have := HE1.out; omega) B1.out
    · obtain ⟨m, hm⟩ : ∃ m : Nat, m = mm.toNat := ⟨_, rfl⟩
      have hmi : mm = (m : Nat) := by omega
      subst hmi
      rw [← hm] at HK1 HK2 HBG
      have HE : Hid (R = (⟨#[91]⟩ : ByteArray) ++ jki (jtx g n f) g n false p m ++ (⟨#[93]⟩ : ByteArray)) := Lib.hid (by have h := HR.out; rw [← hm] at h; exact h)
      clear hm hm0 HP1 HR
      have HJ := Lib.hid (fun k (hk : k ≤ m) => jki_size (V := jtx g n f) (obj := false) (p := p) HSM.out k (fun i hi => by
        have hb := HBG.out i (by omega)
        have hl := wk_lt _ _ _ (HK1.out i (by omega))
        exact ⟨by omega, hl.1, hl.2, jtx_size HSM.out f _ _ (by have := HFF.out; omega) (HK1.out i (by omega))⟩))
      have HBN := Lib.hid (fun k (hk : k ≤ m) => show bd g n (p + 1) k ≤ n by
        rcases Nat.lt_or_ge k m with h | h
        · exact Nat.le_of_lt (Nat.lt_of_lt_of_le (wk_lt _ _ _ (HK1.out k h)).1 (wk_lt _ _ _ (HK1.out k h)).2)
        · rw [show k = m by omega, HK2.out]; exact HEN.out)
      clear e2 e3
      go_wp2_with (at_builtin; refine app_bytes2 rfl (.tmp 48) (.tmp 49) rfl (.slice ad L.length cp) L [91] W1.heap.size (by simp [Act.eval, Act.put]) (by simp [Act.eval, Act.put]) (HO1.out.alloc _) (heap_alloc_new _ _) (by have := HL.out.le; simp; omega) ?_; intro v1 w1 b1 q1; have B1 := Lib.hid b1; have e4 := box_many q1 HBLK.out HOWN.out; clear b1 q1)
      go_loopw [0, 9, 10, 53] (fun v0 v9 _ vk wr => ∃ (i : Nat) (v : Value), i ≤ m ∧ vk = .int .i64 i ∧ v9 = .int .i64 (bd g n (p + 1) i : Nat) ∧ v = v0 ∧ Hid (BO w0 wr v (L ++ [91] ++ bI (jki (jtx g n f) g n false p i)))) (fun _ _ _ vk _ => m - (intOf vk).toNat)
      case atStart => exact ⟨0, _, Nat.zero_le _, rfl, rfl, rfl, Lib.hid (by rw [show bI (jki (jtx g n f) g n false p 0) = [] from rfl, List.append_nil]; exact B1.out)⟩
      case round =>
        obtain ⟨i, v, hi, rfl, rfl, rfl, HBC⟩ := hrel
        have HJi := Lib.hid (HJ.out i hi)
        have HBGi := Lib.hid (HBG.out i hi)
        have HBNi := Lib.hid (HBN.out i hi)
        by_cases him : i < m
        · have hii : (i : Int) < m := by omega
          have hib : (i : Int) ≤ 2048 := by have h1 := HBGi.out; have h2 := HBNi.out; omega
          have HKi := Lib.hid (HK1.out i him)
          have HCAT := Lib.hid (jki_bI (V := jtx g n f) (g := g) (n := n) (p := p) (i := i) (L ++ [91]))
          obtain ⟨J, hJ⟩ : ∃ J, J = jki (jtx g n f) g n false p i := ⟨_, rfl⟩
          rw [← hJ] at HBC HJi HCAT
          obtain ⟨q, hq⟩ : ∃ q, q = bd g n (p + 1) i := ⟨_, rfl⟩
          obtain ⟨q2, hq2⟩ : ∃ q2, q2 = bd g n (p + 1) (i + 1) := ⟨_, rfl⟩
          have HQ2 := Lib.hid hq2
          rw [← hq, ← hq2] at HKi
          rw [← hq] at HJi HBGi HBNi HCAT ⊢
          clear hJ hq hq2
          have HLL : Hid (L.length + J.size + 40000 * (n - q) + 20000 ≤ 90000000) := Lib.hid (by have h1 := HJi.out; have h2 := HL.out.le; have h3 := HPN.out; omega)
          have HQL2 := wk_lt _ _ _ HKi.out
          have hq0 : (0 : Int) ≤ q := by omega
          have hqn : (q : Int) < n := by omega
          have HQN : Hid (q < n) := Lib.hid (by omega)
          go_wp2_with fail
          refine (between_any i w0 _ _ _ HBC.out (by have := HLL.out; simp only [List.length_append, List.length_singleton, bI_len]; omega)).mono ?_
          rintro r wa ⟨va, rfl, ba, _⟩
          have BA := Lib.hid ba
          clear ba
          go_wp2_with fail
          refine (HIH.out q q2 _ va _ (by have := HBGi.out; have := HFF.out; omega) HKi.out BA.out (by have := HLL.out; have h2 := ifl_len i (L ++ [91] ++ bI J); simp only [List.length_append, List.length_singleton, bI_len] at h2 ⊢; omega)).mono ?_
          rintro r wb ⟨vb, rfl, bb⟩
          rw [HCAT.out] at bb
          have BB := Lib.hid bb
          clear bb
          go_wp2_with fail
          go_roundw
          case rel => exact ⟨i + 1, _, by omega, by go_num, by rw [HQ2.out], rfl, BB⟩
          case measure => (simp [intOf]; omega)
        · have hie : i = m := by omega
          subst hie
          have hz : ¬ ((i : Int) < (i : Int)) := by omega
          have HRB : Hid (L ++ [91] ++ bI (jki (jtx g n f) g n false p i) ++ [93] = L ++ bI R) := Lib.hid (by rw [HE.out, bI_app, bI_app, show bI (⟨#[91]⟩ : ByteArray) = [91] from rfl, show bI (⟨#[93]⟩ : ByteArray) = [93] from rfl]; simp only [List.append_assoc])
          have HEE := Lib.hid HK2.out
          obtain ⟨J, hJ⟩ : ∃ J, J = jki (jtx g n f) g n false p i := ⟨_, rfl⟩
          rw [← hJ] at HBC HJi HRB
          obtain ⟨q, hq⟩ : ∃ q, q = bd g n (p + 1) i := ⟨_, rfl⟩
          rw [← hq] at HEE ⊢
          clear hJ hq
          go_wp2_with (at_builtin; refine app_bytes2 rfl (.tmp 66) (.tmp 67) rfl v (L ++ [91] ++ bI J) [93] wr.heap.size (by simp [Act.eval, Act.put]) (by simp [Act.eval, Act.put]) (HBC.out.alloc _) (heap_alloc_new _ _) (by have := HJi.out; have := HL.out.le; simp only [List.length_append, List.length_singleton, bI_len]; omega) ?_; intro v2 w2 b2 _; rw [HRB.out] at b2; have B2 := Lib.hid b2; clear b2)
          go_ret2
          exact WP.mk (by rw [HEE.out]) B2.out
    · obtain ⟨m, hm⟩ : ∃ m : Nat, m = mm.toNat := ⟨_, rfl⟩
      have hmi : mm = (m : Nat) := by omega
      subst hmi
      rw [← hm] at HK1 HK2 HBG
      have HE : Hid (R = (⟨#[123]⟩ : ByteArray) ++ jki (jtx g n f) g n true p m ++ (⟨#[125]⟩ : ByteArray)) := Lib.hid (by have h := HR.out; rw [← hm] at h; exact h)
      clear hm hm0 HP1 HR
      have HJ := Lib.hid (fun k (hk : k ≤ m) => jki_size (V := jtx g n f) (obj := true) (p := p) HSM.out k (fun i hi => by
        have hb := HBG.out i (by omega)
        have hl := wk_lt _ _ _ (HK1.out i (by omega))
        exact ⟨by omega, hl.1, hl.2, jtx_size HSM.out f _ _ (by have := HFF.out; omega) (HK1.out i (by omega))⟩))
      have HBN := Lib.hid (fun k (hk : k ≤ m) => show bd g n (p + 1) k ≤ n by
        rcases Nat.lt_or_ge k m with h | h
        · exact Nat.le_of_lt (Nat.lt_of_lt_of_le (wk_lt _ _ _ (HK1.out k h)).1 (wk_lt _ _ _ (HK1.out k h)).2)
        · rw [show k = m by omega, HK2.out]; exact HEN.out)
      clear e2 e3
      go_wp2_with (at_builtin; refine app_bytes2 rfl (.tmp 72) (.tmp 73) rfl (.slice ad L.length cp) L [123] W1.heap.size (by simp [Act.eval, Act.put]) (by simp [Act.eval, Act.put]) (HO1.out.alloc _) (heap_alloc_new _ _) (by have := HL.out.le; simp; omega) ?_; intro v1 w1 b1 q1; have B1 := Lib.hid b1; have e4 := box_many q1 HBLK.out HOWN.out; clear b1 q1)
      go_loopw [0, 9, 11, 77] (fun v0 v9 _ vk wr => ∃ (i : Nat) (v : Value), i ≤ m ∧ vk = .int .i64 i ∧ v9 = .int .i64 (bd g n (p + 1) i : Nat) ∧ v = v0 ∧ Hid (BO w0 wr v (L ++ [123] ++ bI (jki (jtx g n f) g n true p i)))) (fun _ _ _ vk _ => m - (intOf vk).toNat)
      case atStart => exact ⟨0, _, Nat.zero_le _, rfl, rfl, rfl, Lib.hid (by rw [show bI (jki (jtx g n f) g n true p 0) = [] from rfl, List.append_nil]; exact B1.out)⟩
      case round =>
        obtain ⟨i, v, hi, rfl, rfl, rfl, HBC⟩ := hrel
        have HJi := Lib.hid (HJ.out i hi)
        have HBGi := Lib.hid (HBG.out i hi)
        have HBNi := Lib.hid (HBN.out i hi)
        by_cases him : i < m
        · have hii : (i : Int) < m := by omega
          have hib : (i : Int) ≤ 2048 := by have h1 := HBGi.out; have h2 := HBNi.out; omega
          have HKi := Lib.hid (HK1.out i him)
          have HCAT := Lib.hid (jki_bIo (V := jtx g n f) (g := g) (n := n) (p := p) (i := i) (L ++ [123]))
          obtain ⟨J, hJ⟩ : ∃ J, J = jki (jtx g n f) g n true p i := ⟨_, rfl⟩
          rw [← hJ] at HBC HJi HCAT
          obtain ⟨q, hq⟩ : ∃ q, q = bd g n (p + 1) i := ⟨_, rfl⟩
          obtain ⟨q2, hq2⟩ : ∃ q2, q2 = bd g n (p + 1) (i + 1) := ⟨_, rfl⟩
          have HQ2 := Lib.hid hq2
          rw [← hq, ← hq2] at HKi
          rw [← hq] at HJi HBGi HBNi HCAT ⊢
          clear hJ hq hq2
          have HLL : Hid (L.length + J.size + 40000 * (n - q) + 20000 ≤ 90000000) := Lib.hid (by have h1 := HJi.out; have h2 := HL.out.le; have h3 := HPN.out; omega)
          have HQL2 := wk_lt _ _ _ HKi.out
          have hq0 : (0 : Int) ≤ q := by omega
          have hqn : (q : Int) < n := by omega
          have HQN : Hid (q < n) := Lib.hid (by omega)
          have d1 := ((HV.out.below HBC.out.2).at_ HQN.out).2.2.1
          obtain ⟨nq, hnq⟩ : ∃ x, x = (g q).nm := ⟨_, rfl⟩
          have HNQ : Hid (nq.size ≤ 3000) := Lib.hid (by rw [hnq]; exact HSM.out.nm q HQN.out)
          have HQ : Hid (∀ w', Below w0.heap.size w0 w' → (fun w' => Below w0.heap.size w0 w' ∧ w'.cell? ⟨b, off + q * 5 + 1, none⟩ = some (.string nq)) w') := Lib.hid (fun w' k => ⟨k, by rw [hnq]; exact ((HV.out.below k).at_ HQN.out).2.2.1⟩)
          have HQL : Hid ((quL nq nq.size).length ≤ 18001) := Lib.hid (by have h1 := quL_len nq nq.size; have h2 := HNQ.out; omega)
          rw [← hnq] at HCAT
          clear d1 hnq
          go_wp2_with fail
          refine wp_region_held_drew (S := (fun w' => Below w0.heap.size w0 w' ∧ w'.cell? ⟨b, off + q * 5 + 1, none⟩ = some (.string nq))) (by kernel_rfl) (HQ.out _ HBC.out.drew.2) (fun hHeld => ?_)
          refine wpAnyH_take (i := 0) (oi := { dst := some 80, op := Op.move (Operand.tmp 0), type := 34, pos := "json.go:43", after := #[], guard := none }) (v := ?_) rfl (by kernel_rfl) (by kernel_rfl) (by kernel_rfl) (fun _ _ _ h => h) (Or.inl ⟨by rfl, ?_⟩) hHeld ?_
          rotate_left
          · (intro w hSw; (try dsimp only at hSw); go_simp <;> with_reducible rfl)
          try simp only [Act.put, List.setIfInBounds_toArray, List.set_cons_zero, List.set_cons_succ]
          refine wpAnyH_take (i := 1) (oi := { dst := some 81, op := Op.move (Operand.tmp 11), type := 3, pos := "json.go:43", after := #[], guard := none }) (v := ?_) rfl (by kernel_rfl) (by kernel_rfl) (by kernel_rfl) (fun _ _ _ h => h) (Or.inl ⟨by rfl, ?_⟩) hHeld ?_
          rotate_left
          · (intro w hSw; (try dsimp only at hSw); go_simp <;> with_reducible rfl)
          try simp only [Act.put, List.setIfInBounds_toArray, List.set_cons_zero, List.set_cons_succ]
          refine wpAnyH_take (i := 3) (oi := { dst := some 83, op := Op.move (Operand.tmp 1), type := 22, pos := "json.go:43", after := #[], guard := none }) (v := ?_) rfl (by kernel_rfl) (by kernel_rfl) (by kernel_rfl) (fun _ _ _ h => h) (Or.inl ⟨by rfl, ?_⟩) hHeld ?_
          rotate_left
          · (intro w hSw; (try dsimp only at hSw); go_simp <;> with_reducible rfl)
          try simp only [Act.put, List.setIfInBounds_toArray, List.set_cons_zero, List.set_cons_succ]
          refine wpAnyH_take (i := 4) (oi := { dst := some 84, op := Op.move (Operand.tmp 9), type := 3, pos := "json.go:43", after := #[], guard := none }) (v := ?_) rfl (by kernel_rfl) (by kernel_rfl) (by kernel_rfl) (fun _ _ _ h => h) (Or.inl ⟨by rfl, ?_⟩) hHeld ?_
          rotate_left
          · (intro w hSw; (try dsimp only at hSw); go_simp <;> with_reducible rfl)
          try simp only [Act.put, List.setIfInBounds_toArray, List.set_cons_zero, List.set_cons_succ]
          refine wpAnyH_take (i := 5) (oi := { dst := some 85, op := Op.indexAddr 22 (Operand.tmp 83) (Operand.tmp 84), type := 0, pos := "json.go:43", after := #[{ on := 3, ground := Ground.data }, { on := 4, ground := Ground.data }], guard := none }) (v := ?_) rfl (by kernel_rfl) (by kernel_rfl) (by kernel_rfl) (fun _ _ _ h => h) (Or.inl ⟨by rfl, ?_⟩) hHeld ?_
          rotate_left
          · (intro w hSw; (try dsimp only at hSw); go_simp <;> with_reducible rfl)
          try simp only [Act.put, List.setIfInBounds_toArray, List.set_cons_zero, List.set_cons_succ]
          refine wpAnyH_take (i := 6) (oi := { dst := some 86, op := Op.fieldAddr 33 (Operand.tmp 85) 1, type := 0, pos := "json.go:43", after := #[{ on := 5, ground := Ground.data }], guard := none }) (v := ?_) rfl (by kernel_rfl) (by kernel_rfl) (by kernel_rfl) (fun _ _ _ h => h) (Or.inl ⟨by rfl, ?_⟩) hHeld ?_
          rotate_left
          · (intro w hSw; (try dsimp only at hSw); go_simp <;> with_reducible rfl)
          try simp only [Act.put, List.setIfInBounds_toArray, List.set_cons_zero, List.set_cons_succ]
          refine wpAnyH_take (i := 7) (oi := { dst := some 87, op := Op.load 9 (Operand.tmp 86), type := 9, pos := "json.go:43", after := #[{ on := 6, ground := Ground.data }], guard := none }) (v := ?_) rfl (by kernel_rfl) (by kernel_rfl) (by kernel_rfl) (fun _ _ _ h => h) (Or.inl ⟨by rfl, ?_⟩) hHeld ?_
          rotate_left
          · (intro w hSw; (try dsimp only at hSw); go_simp <;> with_reducible rfl)
          try simp only [Act.put, List.setIfInBounds_toArray, List.set_cons_zero, List.set_cons_succ]
          refine wpAnyH_ready (rs := [2, 9]) (by kernel_rfl) (by simp) (AllReadyH.cons (o := { dst := some 82, op := Op.call { callee := Callee.value (Operand.func 16), args := #[Operand.tmp 80, Operand.tmp 81], argTypes := #[34, 3] }, type := 34, pos := "json.go:43", after := #[{ on := 0, ground := Ground.data }, { on := 1, ground := Ground.data }], guard := none }) rfl (fun K2 hK2 => ?_) (AllReadyH.cons (o := { dst := some 89, op := Op.buildSlice 34 1 #[(0, Operand.const (Value.int IntKind.u8 58))], type := 34, pos := "json.go:43", after := #[], guard := none }) rfl (fun K9 hK9 => ?_) AllReadyH.nil))
          · go_simp
            refine (between_any i w0 _ _ _ HBC.out.drew (by have := HLL.out; simp only [List.length_append, List.length_singleton, bI_len]; omega)).mono ?_
            rintro r wa ⟨va, rfl, ba, ka⟩
            have BA := Lib.hid ba
            refine hK2.out _ _ (HQ.out _ ba.2) (fun hH_2 => ?_)
            clear ba ka
            clear hK2 K2
            try simp only [Act.put, List.setIfInBounds_toArray, List.set_cons_zero, List.set_cons_succ]
            refine wpAnyH_ready (rs := [8, 9]) (by kernel_rfl) (by simp) (AllReadyH.cons (o := { dst := some 88, op := Op.call { callee := Callee.value (Operand.func 15), args := #[Operand.tmp 82, Operand.tmp 87], argTypes := #[34, 9] }, type := 34, pos := "json.go:43", after := #[{ on := 2, ground := Ground.data }, { on := 7, ground := Ground.data }, { on := 2, ground := Ground.chain }], guard := none }) rfl (fun K8 hK8 => ?_) (AllReadyH.cons (o := { dst := some 89, op := Op.buildSlice 34 1 #[(0, Operand.const (Value.int IntKind.u8 58))], type := 34, pos := "json.go:43", after := #[], guard := none }) rfl (fun K9 hK9 => ?_) AllReadyH.nil))
            · go_simp
              refine (jquote_app nq w0 _ va _ BA.out (by have := HLL.out; have h2 := ifl_len i (L ++ [123] ++ bI J); simp only [List.length_append, List.length_singleton, bI_len] at h2 ⊢; omega) (by have := HNQ.out; omega)).mono ?_
              rintro r wb ⟨vb, rfl, bb, kb⟩
              have BB := Lib.hid bb
              refine hK8.out _ _ (HQ.out _ bb.2) (fun hH_8 => ?_)
              clear bb kb
              clear hK8 K8
              try simp only [Act.put, List.setIfInBounds_toArray, List.set_cons_zero, List.set_cons_succ]
              refine wpAnyH_ready (rs := [9]) (by kernel_rfl) (by simp) (AllReadyH.cons (o := { dst := some 89, op := Op.buildSlice 34 1 #[(0, Operand.const (Value.int IntKind.u8 58))], type := 34, pos := "json.go:43", after := #[], guard := none }) rfl (fun K9 hK9 => ?_) AllReadyH.nil)
              go_simp
              have HN58 : Hid ((wb.alloc (.cells #[.int .u8 58] 5)).heap[wb.heap.size]? = some (.cells #[.int .u8 58] 5)) := Lib.hid (heap_alloc_new _ _)
              refine hK9.out _ _ (HQ.out _ (hH_8.1.alloc hH_8.1.size _)) (fun hH_9 => ?_)
              clear hK9 K9
              try simp only [Act.put, List.setIfInBounds_toArray, List.set_cons_zero, List.set_cons_succ]
              refine wpAnyH_ready (rs := [10]) (by kernel_rfl) (by simp) (AllReadyH.cons (o := { dst := some 90, op := Op.call { callee := Callee.builtin Builtin.append, args := #[Operand.tmp 88, Operand.tmp 89], argTypes := #[34, 34] }, type := 34, pos := "json.go:43", after := #[{ on := 8, ground := Ground.data }, { on := 9, ground := Ground.data }, { on := 8, ground := Ground.chain }], guard := none }) rfl (fun K10 hK10 => ?_) AllReadyH.nil)
              refine step_bytes2 rfl (.tmp 88) (.tmp 89) rfl vb _ [58] wb.heap.size (by simp [Act.eval, Act.put]) (by simp [Act.eval, Act.put] <;> rfl) (BB.out.alloc _) HN58.out (by have := HLL.out; have h2 := ifl_len i (L ++ [123] ++ bI J); have h3 := HQL.out; simp only [List.length_append, List.length_singleton, bI_len] at h2 ⊢; omega) ?_
              intro vc wc bc _
              have BC := Lib.hid bc
              refine hK10.out _ _ (HQ.out _ bc.2) (fun hH_10 => ?_)
              clear bc
              clear hK10 K10
              try simp only [Act.put, List.setIfInBounds_toArray, List.set_cons_zero, List.set_cons_succ]
              refine wpAnyH_take (i := 11) (oi := { dst := some 0, op := Op.assign (Operand.tmp 90), type := 34, pos := "json.go:43", after := #[{ on := 10, ground := Ground.data }, { on := 10, ground := Ground.chain }, { on := 0, ground := Ground.phase }, { on := 1, ground := Ground.phase }, { on := 2, ground := Ground.phase }, { on := 3, ground := Ground.phase }, { on := 4, ground := Ground.phase }, { on := 5, ground := Ground.phase }, { on := 6, ground := Ground.phase }, { on := 7, ground := Ground.phase }, { on := 8, ground := Ground.phase }, { on := 9, ground := Ground.phase }, { on := 10, ground := Ground.phase }], guard := none }) (v := ?_) rfl (by kernel_rfl) (by kernel_rfl) (by kernel_rfl) (fun _ _ _ h => h) (Or.inl ⟨by rfl, ?_⟩) hH_10 ?_
              rotate_left
              · (intro w hSw; (try dsimp only at hSw); go_simp <;> with_reducible rfl)
              try simp only [Act.put, List.setIfInBounds_toArray, List.set_cons_zero, List.set_cons_succ]
              refine wpAnyH_done (by kernel_rfl) ?_ _
              clear hH_10
              go_wp2_with fail
              refine (HIH.out q q2 _ vc _ (by have := HBGi.out; have := HFF.out; omega) HKi.out BC.out (by have := HLL.out; have h2 := ifl_len i (L ++ [123] ++ bI J); have h3 := HQL.out; simp only [List.length_append, List.length_singleton, bI_len] at h2 ⊢; omega)).mono ?_
              rintro r wd ⟨vd, rfl, bd'⟩
              rw [HCAT.out] at bd'
              have BD := Lib.hid bd'
              clear bd'
              go_wp2_with fail
              go_roundw
              case rel => exact ⟨i + 1, _, by omega, by go_num, by rw [HQ2.out], rfl, BD⟩
              case measure => (simp [intOf]; omega)
            · go_simp
              have HN58 : Hid ((wa.alloc (.cells #[.int .u8 58] 5)).heap[wa.heap.size]? = some (.cells #[.int .u8 58] 5)) := Lib.hid (heap_alloc_new _ _)
              refine hK9.out _ _ (HQ.out _ (hH_2.1.alloc hH_2.1.size _)) (fun hH_9 => ?_)
              clear hK9 K9
              try simp only [Act.put, List.setIfInBounds_toArray, List.set_cons_zero, List.set_cons_succ]
              refine wpAnyH_ready (rs := [8]) (by kernel_rfl) (by simp) (AllReadyH.cons (o := { dst := some 88, op := Op.call { callee := Callee.value (Operand.func 15), args := #[Operand.tmp 82, Operand.tmp 87], argTypes := #[34, 9] }, type := 34, pos := "json.go:43", after := #[{ on := 2, ground := Ground.data }, { on := 7, ground := Ground.data }, { on := 2, ground := Ground.chain }], guard := none }) rfl (fun K8 hK8 => ?_) AllReadyH.nil)
              go_simp
              refine (jquote_app nq w0 _ va _ (BA.out.alloc _) (by have := HLL.out; have h2 := ifl_len i (L ++ [123] ++ bI J); simp only [List.length_append, List.length_singleton, bI_len] at h2 ⊢; omega) (by have := HNQ.out; omega)).mono ?_
              rintro r wb ⟨vb, rfl, bb, kb⟩
              have BB := Lib.hid bb
              have HN8 := Lib.hid (kb.keep HN58.out (fun j hj => Nat.ne_of_lt (BA.out.own_lt j hj)))
              refine hK8.out _ _ (HQ.out _ bb.2) (fun hH_8 => ?_)
              clear bb kb
              clear hK8 K8
              try simp only [Act.put, List.setIfInBounds_toArray, List.set_cons_zero, List.set_cons_succ]
              refine wpAnyH_ready (rs := [10]) (by kernel_rfl) (by simp) (AllReadyH.cons (o := { dst := some 90, op := Op.call { callee := Callee.builtin Builtin.append, args := #[Operand.tmp 88, Operand.tmp 89], argTypes := #[34, 34] }, type := 34, pos := "json.go:43", after := #[{ on := 8, ground := Ground.data }, { on := 9, ground := Ground.data }, { on := 8, ground := Ground.chain }], guard := none }) rfl (fun K10 hK10 => ?_) AllReadyH.nil)
              refine step_bytes2 rfl (.tmp 88) (.tmp 89) rfl vb _ [58] _ (by simp [Act.eval, Act.put]) (by simp [Act.eval, Act.put] <;> rfl) BB.out HN8.out (by have := HLL.out; have h2 := ifl_len i (L ++ [123] ++ bI J); have h3 := HQL.out; simp only [List.length_append, List.length_singleton, bI_len] at h2 ⊢; omega) ?_
              intro vc wc bc _
              have BC := Lib.hid bc
              refine hK10.out _ _ (HQ.out _ bc.2) (fun hH_10 => ?_)
              clear bc
              clear hK10 K10
              try simp only [Act.put, List.setIfInBounds_toArray, List.set_cons_zero, List.set_cons_succ]
              refine wpAnyH_take (i := 11) (oi := { dst := some 0, op := Op.assign (Operand.tmp 90), type := 34, pos := "json.go:43", after := #[{ on := 10, ground := Ground.data }, { on := 10, ground := Ground.chain }, { on := 0, ground := Ground.phase }, { on := 1, ground := Ground.phase }, { on := 2, ground := Ground.phase }, { on := 3, ground := Ground.phase }, { on := 4, ground := Ground.phase }, { on := 5, ground := Ground.phase }, { on := 6, ground := Ground.phase }, { on := 7, ground := Ground.phase }, { on := 8, ground := Ground.phase }, { on := 9, ground := Ground.phase }, { on := 10, ground := Ground.phase }], guard := none }) (v := ?_) rfl (by kernel_rfl) (by kernel_rfl) (by kernel_rfl) (fun _ _ _ h => h) (Or.inl ⟨by rfl, ?_⟩) hH_10 ?_
              rotate_left
              · (intro w hSw; (try dsimp only at hSw); go_simp <;> with_reducible rfl)
              try simp only [Act.put, List.setIfInBounds_toArray, List.set_cons_zero, List.set_cons_succ]
              refine wpAnyH_done (by kernel_rfl) ?_ _
              clear hH_10
              go_wp2_with fail
              refine (HIH.out q q2 _ vc _ (by have := HBGi.out; have := HFF.out; omega) HKi.out BC.out (by have := HLL.out; have h2 := ifl_len i (L ++ [123] ++ bI J); have h3 := HQL.out; simp only [List.length_append, List.length_singleton, bI_len] at h2 ⊢; omega)).mono ?_
              rintro r wd ⟨vd, rfl, bd'⟩
              rw [HCAT.out] at bd'
              have BD := Lib.hid bd'
              clear bd'
              go_wp2_with fail
              go_roundw
              case rel => exact ⟨i + 1, _, by omega, by go_num, by rw [HQ2.out], rfl, BD⟩
              case measure => (simp [intOf]; omega)
          · go_simp
            have HN58 : Hid ((wr.drew.alloc (.cells #[.int .u8 58] 5)).heap[wr.drew.heap.size]? = some (.cells #[.int .u8 58] 5)) := Lib.hid (heap_alloc_new _ _)
            refine hK9.out _ _ (HQ.out _ (hHeld.1.alloc hHeld.1.size _)) (fun hH_9 => ?_)
            clear hK9 K9
            try simp only [Act.put, List.setIfInBounds_toArray, List.set_cons_zero, List.set_cons_succ]
            refine wpAnyH_ready (rs := [2]) (by kernel_rfl) (by simp) (AllReadyH.cons (o := { dst := some 82, op := Op.call { callee := Callee.value (Operand.func 16), args := #[Operand.tmp 80, Operand.tmp 81], argTypes := #[34, 3] }, type := 34, pos := "json.go:43", after := #[{ on := 0, ground := Ground.data }, { on := 1, ground := Ground.data }], guard := none }) rfl (fun K2 hK2 => ?_) AllReadyH.nil)
            go_simp
            refine (between_any i w0 _ _ _ (HBC.out.drew.alloc _) (by have := HLL.out; simp only [List.length_append, List.length_singleton, bI_len]; omega)).mono ?_
            rintro r wa ⟨va, rfl, ba, ka⟩
            have BA := Lib.hid ba
            have HN9 := Lib.hid (ka.keep HN58.out (fun j hj => Nat.ne_of_lt (HBC.out.own_lt j hj)))
            have HOV := Lib.hid (ka.off (k := wr.heap.size) HBC.out.own_lt (by simp))
            refine hK2.out _ _ (HQ.out _ ba.2) (fun hH_2 => ?_)
            clear ba ka
            clear hK2 K2
            try simp only [Act.put, List.setIfInBounds_toArray, List.set_cons_zero, List.set_cons_succ]
            refine wpAnyH_ready (rs := [8]) (by kernel_rfl) (by simp) (AllReadyH.cons (o := { dst := some 88, op := Op.call { callee := Callee.value (Operand.func 15), args := #[Operand.tmp 82, Operand.tmp 87], argTypes := #[34, 9] }, type := 34, pos := "json.go:43", after := #[{ on := 2, ground := Ground.data }, { on := 7, ground := Ground.data }, { on := 2, ground := Ground.chain }], guard := none }) rfl (fun K8 hK8 => ?_) AllReadyH.nil)
            go_simp
            refine (jquote_app nq w0 _ va _ BA.out (by have := HLL.out; have h2 := ifl_len i (L ++ [123] ++ bI J); simp only [List.length_append, List.length_singleton, bI_len] at h2 ⊢; omega) (by have := HNQ.out; omega)).mono ?_
            rintro r wb ⟨vb, rfl, bb, kb⟩
            have BB := Lib.hid bb
            have HN8 := Lib.hid (kb.keep HN9.out HOV.out)
            refine hK8.out _ _ (HQ.out _ bb.2) (fun hH_8 => ?_)
            clear bb kb
            clear hK8 K8
            try simp only [Act.put, List.setIfInBounds_toArray, List.set_cons_zero, List.set_cons_succ]
            refine wpAnyH_ready (rs := [10]) (by kernel_rfl) (by simp) (AllReadyH.cons (o := { dst := some 90, op := Op.call { callee := Callee.builtin Builtin.append, args := #[Operand.tmp 88, Operand.tmp 89], argTypes := #[34, 34] }, type := 34, pos := "json.go:43", after := #[{ on := 8, ground := Ground.data }, { on := 9, ground := Ground.data }, { on := 8, ground := Ground.chain }], guard := none }) rfl (fun K10 hK10 => ?_) AllReadyH.nil)
            refine step_bytes2 rfl (.tmp 88) (.tmp 89) rfl vb _ [58] _ (by simp [Act.eval, Act.put]) (by simp [Act.eval, Act.put] <;> rfl) BB.out HN8.out (by have := HLL.out; have h2 := ifl_len i (L ++ [123] ++ bI J); have h3 := HQL.out; simp only [List.length_append, List.length_singleton, bI_len] at h2 ⊢; omega) ?_
            intro vc wc bc _
            have BC := Lib.hid bc
            refine hK10.out _ _ (HQ.out _ bc.2) (fun hH_10 => ?_)
            clear bc
            clear hK10 K10
            try simp only [Act.put, List.setIfInBounds_toArray, List.set_cons_zero, List.set_cons_succ]
            refine wpAnyH_take (i := 11) (oi := { dst := some 0, op := Op.assign (Operand.tmp 90), type := 34, pos := "json.go:43", after := #[{ on := 10, ground := Ground.data }, { on := 10, ground := Ground.chain }, { on := 0, ground := Ground.phase }, { on := 1, ground := Ground.phase }, { on := 2, ground := Ground.phase }, { on := 3, ground := Ground.phase }, { on := 4, ground := Ground.phase }, { on := 5, ground := Ground.phase }, { on := 6, ground := Ground.phase }, { on := 7, ground := Ground.phase }, { on := 8, ground := Ground.phase }, { on := 9, ground := Ground.phase }, { on := 10, ground := Ground.phase }], guard := none }) (v := ?_) rfl (by kernel_rfl) (by kernel_rfl) (by kernel_rfl) (fun _ _ _ h => h) (Or.inl ⟨by rfl, ?_⟩) hH_10 ?_
            rotate_left
            · (intro w hSw; (try dsimp only at hSw); go_simp <;> with_reducible rfl)
            try simp only [Act.put, List.setIfInBounds_toArray, List.set_cons_zero, List.set_cons_succ]
            refine wpAnyH_done (by kernel_rfl) ?_ _
            clear hH_10
            go_wp2_with fail
            refine (HIH.out q q2 _ vc _ (by have := HBGi.out; have := HFF.out; omega) HKi.out BC.out (by have := HLL.out; have h2 := ifl_len i (L ++ [123] ++ bI J); have h3 := HQL.out; simp only [List.length_append, List.length_singleton, bI_len] at h2 ⊢; omega)).mono ?_
            rintro r wd ⟨vd, rfl, bd'⟩
            rw [HCAT.out] at bd'
            have BD := Lib.hid bd'
            clear bd'
            go_wp2_with fail
            go_roundw
            case rel => exact ⟨i + 1, _, by omega, by go_num, by rw [HQ2.out], rfl, BD⟩
            case measure => (simp [intOf]; omega)
        · have hie : i = m := by omega
          subst hie
          have hz : ¬ ((i : Int) < (i : Int)) := by omega
          have HRB : Hid (L ++ [123] ++ bI (jki (jtx g n f) g n true p i) ++ [125] = L ++ bI R) := Lib.hid (by rw [HE.out, bI_app, bI_app, show bI (⟨#[123]⟩ : ByteArray) = [123] from rfl, show bI (⟨#[125]⟩ : ByteArray) = [125] from rfl]; simp only [List.append_assoc])
          have HEE := Lib.hid HK2.out
          obtain ⟨J, hJ⟩ : ∃ J, J = jki (jtx g n f) g n true p i := ⟨_, rfl⟩
          rw [← hJ] at HBC HJi HRB
          obtain ⟨q, hq⟩ : ∃ q, q = bd g n (p + 1) i := ⟨_, rfl⟩
          rw [← hq] at HEE ⊢
          clear hJ hq
          go_wp2_with (at_builtin; refine app_bytes2 rfl (.tmp 99) (.tmp 100) rfl v (L ++ [123] ++ bI J) [125] wr.heap.size (by simp [Act.eval, Act.put]) (by simp [Act.eval, Act.put]) (HBC.out.alloc _) (heap_alloc_new _ _) (by have := HJi.out; have := HL.out.le; simp only [List.length_append, List.length_singleton, bI_len]; omega) ?_; intro v2 w2 b2 _; rw [HRB.out] at b2; have B2 := Lib.hid b2; clear b2)
          go_ret2
          exact WP.mk (by rw [HEE.out]) B2.out
end Go.Proofs.YtpbbmnefcfllmaaDoor
