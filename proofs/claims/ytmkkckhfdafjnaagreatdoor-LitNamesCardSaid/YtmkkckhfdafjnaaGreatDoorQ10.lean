import Derived.Test.YtmkkckhfdafjnaaGreatDoorQ9
import Derived.Test.YtmkkckhfdafjnaaGreatDoorRows
import Derived.Test.YtmkkckhfdafjnaaGreatDoorTie
import Derived.Test.YtmkkckhfdafjnaaGreatDoorCards
import Derived.Test.YtmkkckhfdafjnaaGreatDoorQ1
import Derived.HandedShaped
import Derived.Lay
import Derived.Shelf.Vars
import Derived.WalkKit
import Derived.ProofKit
import Derived.OpenShut
import Derived.LaidMore
import Derived.Stop.Joined
import Derived.SevenTiedAt
import Derived.Lib.LaidTab
import Derived.Stop.LaidErr
import Derived.ShutString
import Derived.ChangeOld
import Derived.Carry
/- Layer 18: put, of a value that has none within. -/
namespace Go.Proofs.YtmkkckhfdafjnaaGreatDoor.Li
open Go.RowKit Go.Maps
theorem push1 {w0 w w1 w' : World} {v v' : Value} {L : List TkR} {t : TkR} {o : Obj} (hB : Below w0.heap.size w0 w) (hO : OwT w0.heap.size w v L) (b1 : Below w.heap.size w w1) (hg : (w1.alloc o).grownBy w' v.ownBlock) (ho : w'.ownsRow w0.heap.size 59 3 v' (L.length + 1) (rw3 (gt L) L.length ++ [.int .u8 t.k, .string t.s, .int .i64 t.a])) : Below w0.heap.size w0 w' ∧ OwT w0.heap.size w' v' (L ++ [t]) := by
  have hlt := fun k e => hO.lt k e
  have hsz : (w1.alloc o).heap.size = w1.heap.size + 1 := by simp
  have hb := hB.trans (b1.mono hB.size)
  refine ⟨⟨hg.os.trans hb.os, hg.tape.trans hb.tape, hg.output.trans hb.output, Nat.le_trans hb.size (Nat.le_trans (by omega) hg.size), fun k hk => ?_⟩, ?_⟩
  · have hk2 := Nat.lt_of_lt_of_le hk hb.size
    exact ((hg.block k (by omega) (fun e => by have := (hlt k e.symm).1; omega)).trans (heap_alloc_old _ _ hk2)).trans (hb.block k hk)
  · unfold OwT
    rw [List.length_append, List.length_singleton, rw3_snoc]
    exact ho
theorem push2 {w0 w w1 w' : World} {v v' : Value} {L : List TkR} {t u : TkR} {o : Obj} (hB : Below w0.heap.size w0 w) (hO : OwT w0.heap.size w v L) (b1 : Below w.heap.size w w1) (hg : (w1.alloc o).grownBy w' v.ownBlock) (ho : w'.ownsRow w0.heap.size 59 3 v' (L.length + 2) (rw3 (gt L) L.length ++ [.int .u8 t.k, .string t.s, .int .i64 t.a, .int .u8 u.k, .string u.s, .int .i64 u.a])) : Below w0.heap.size w0 w' ∧ OwT w0.heap.size w' v' (L ++ [t, u]) := by
  have hlt := fun k e => hO.lt k e
  have hsz : (w1.alloc o).heap.size = w1.heap.size + 1 := by simp
  have hb := hB.trans (b1.mono hB.size)
  refine ⟨⟨hg.os.trans hb.os, hg.tape.trans hb.tape, hg.output.trans hb.output, Nat.le_trans hb.size (Nat.le_trans (by omega) hg.size), fun k hk => ?_⟩, ?_⟩
  · have hk2 := Nat.lt_of_lt_of_le hk hb.size
    exact ((hg.block k (by omega) (fun e => by have := (hlt k e.symm).1; omega)).trans (heap_alloc_old _ _ hk2)).trans (hb.block k hk)
  · have e1 := rw3_snoc L t
    have e2 := rw3_snoc (L ++ [t]) u
    rw [List.length_append, List.length_singleton, e1, List.append_assoc, List.append_assoc] at e2
    unfold OwT
    rw [show (L ++ [t, u]).length = L.length + 1 + 1 by simp]
    show w'.ownsRow w0.heap.size 59 3 v' (L.length + 1 + 1) (rw3 (gt (L ++ ([t] ++ [u]))) (L.length + 1 + 1))
    rw [e2]
    exact ho
theorem step_tok {ops : Array Oper} {o : Oper} {a : Act} {w : World} {K : Act → World → Prop} {Q : Exit → Act → World → Prop} {E : Prop} (hgd : o.guard = none) (s x : Operand)
    (ho : o.op = .call { callee := .builtin .append, args := #[s, x], argTypes := #[22, 22] }) (B m : Nat) (v : Value) (n : Nat) (R : List Value) (M : List Value) (b : Nat) (hs : a.eval s = v) (hx : a.eval x = .slice (some ⟨b, 0, none⟩) m m) (hO : w.ownsRow B 59 3 v n R) (hb : w.heap[b]? = some (.cells M.toArray 59)) (hM : M.length = m * 3) (hc : ∀ u ∈ M, u.oneCell' = true) (hl : n + m ≤ 200000) (hB : B ≤ w.heap.size)
    (hK : ∀ v' w', w'.ownsRow B 59 3 v' (n + m) (R ++ M) → w.grownBy w' v.ownBlock → K (a.put o.dst v') w') : if Region.wanted o (yielded ops a.tmps) = true then Oper.wp Tryz.prog o a w K Q else E := by
  have hw : Region.wanted o (yielded ops a.tmps) = true := by simp [Region.wanted, hgd]
  rw [if_pos hw]
  obtain ⟨i0, hin, hz0, hz1, hz2⟩ := infoT
  have hnews : ∀ j u, M[j]? = some u → w.cell? ((⟨b, 0, none⟩ : Addr).add j) = some u := fun j u hj => by
    simp only [Addr.add_lit, Nat.zero_add, World.cell?, hb]
    simpa using hj
  obtain ⟨v', w', hrun, r1, r2, _, r3⟩ := run_append_own_at (P := Tryz.prog) (w := w) B 22 o.type 59 i0 (.agg #[.int .u8 0, .string ⟨#[]⟩, .int .i64 0]) 3 32 Tryz.underlying22 hin hz0 hz1 hz2 rfl (by decide) v n R hO ⟨b, 0, none⟩ m m M hM hnews hc (by unfold maxLen; omega) (by omega) hB
  unfold Oper.wp
  simp [execOp, ho, resolve, invoke, builtin, hs, hx, hrun, Result.andThen]
  exact hK v' w' r1 r2
/-- What put answers. -/
def PuP (w0 : World) (L : List TkR) (x : List TkR × Nat) (e : Ending) (w' : World) : Prop := ∃ v', e = .returned (.tuple #[v', .int .i64 x.2]) ∧ Below w0.heap.size w0 w' ∧ OwT w0.heap.size w' v' (L ++ x.1)
set_option maxRecDepth 20000 in
set_option maxHeartbeats 4000000 in
theorem put_null (w0 : World) (a : Option Addr) (n cap : Nat) (g : Nat → CR) (hv : CV w0 a n g) (p : Nat) (hp : p < n) (hn : n ≤ 100000) (hk : ((g p).k : Int) = 0) (w : World) (v : Value) (L : List TkR) (hB : Below w0.heap.size w0 w) (hO : OwT w0.heap.size w v L) (hl : L.length ≤ 100000) : Calls Tryz.prog 42 #[v, .slice a n cap, .int .i64 p] w (PuP w0 L ([nmT tNull], p + 1)) := by
  obtain ⟨i0, hin, hz0, hz1, hz2⟩ := infoT
  obtain ⟨b, off, rfl⟩ := hv.addr (by omega)
  obtain ⟨_, d0, d1, d2, d3, d4⟩ := (hv.below hB).at_ hp
  have hp0 : (0 : Int) ≤ p := by omega
  have hp1 : (p : Int) < n := by omega
  have hp2 : (p : Int) ≤ 100000 := by omega
  obtain ⟨c, hc⟩ : ∃ c, c = g p := ⟨_, rfl⟩
  rw [← hc] at d0 d1 d2 d3 d4 hk
  clear hc
  have HN := Lib.hid nameT_any
  have HM := Lib.hid markT_any
  have HBB := Lib.hid hB
  have HO := Lib.hid hO
  have HB1 := Lib.hid (fun o => below_box w o)
  clear hv hB hO
  go_enter Tryz.func42, Tryz.ntmps42
  go_wp2_with fail
  refine (HN.out _ _).mono ?_
  rintro e w2 ⟨rfl, b2⟩
  have B2 := Lib.hid b2
  have OW := Lib.hid (own_below (own_below HO.out (HB1.out _)) b2)
  have BW := Lib.hid ((HB1.out _).trans (b2.mono (HB1.out _).size))
  clear b2
  go_wp2_with (at_builtin; go_loud (refine wpList_append_own _ rfl _ _ 22 rfl w0.heap.size 59 i0 (.agg #[.int .u8 0, .string ⟨#[]⟩, .int .i64 0]) 3 32 Tryz.underlying22 hin hz0 hz1 hz2 rfl (by decide) _ L.length (rw3 (gt L) L.length) rfl (World.ownsRow.alloc OW.out _) ⟨_, 0, none⟩ 1 1 [.int .u8 1, .string tNull, .int .i64 0] rfl rfl (news_at2 _ _ _ _ rfl (by simp)) (by intro u hu; simp at hu; rcases hu with rfl | rfl | rfl <;> rfl) (by unfold maxLen; omega) (by omega) (by have h1 := HBB.out.size; have h3 := BW.out.size; simp; omega) ?_; intro v' w3 ho hg hne; clear hne))
  go_wp2_with fail
  go_ret2
  exact ⟨v', rfl, push1 (t := nmT tNull) HBB.out HO.out BW.out hg ho⟩
set_option maxRecDepth 20000 in
set_option maxHeartbeats 4000000 in
theorem put_true (w0 : World) (a : Option Addr) (n cap : Nat) (g : Nat → CR) (hv : CV w0 a n g) (p : Nat) (hp : p < n) (hn : n ≤ 100000) (hk : ((g p).k : Int) = 1) (h1 : (g p).n = 1) (w : World) (v : Value) (L : List TkR) (hB : Below w0.heap.size w0 w) (hO : OwT w0.heap.size w v L) (hl : L.length ≤ 100000) : Calls Tryz.prog 42 #[v, .slice a n cap, .int .i64 p] w (PuP w0 L ([nmT tTrue], p + 1)) := by
  obtain ⟨i0, hin, hz0, hz1, hz2⟩ := infoT
  obtain ⟨b, off, rfl⟩ := hv.addr (by omega)
  obtain ⟨_, d0, d1, d2, d3, d4⟩ := (hv.below hB).at_ hp
  have hp0 : (0 : Int) ≤ p := by omega
  have hp1 : (p : Int) < n := by omega
  have hp2 : (p : Int) ≤ 100000 := by omega
  obtain ⟨c, hc⟩ : ∃ c, c = g p := ⟨_, rfl⟩
  rw [← hc] at d0 d1 d2 d3 d4 hk h1
  clear hc
  have HN := Lib.hid nameT_any
  have HM := Lib.hid markT_any
  have HBB := Lib.hid hB
  have HO := Lib.hid hO
  have HB1 := Lib.hid (fun o => below_box w o)
  clear hv hB hO
  go_enter Tryz.func42, Tryz.ntmps42
  go_wp2_with fail
  refine (HN.out _ _).mono ?_
  rintro e w2 ⟨rfl, b2⟩
  have B2 := Lib.hid b2
  have OW := Lib.hid (own_below (own_below HO.out (HB1.out _)) b2)
  have BW := Lib.hid ((HB1.out _).trans (b2.mono (HB1.out _).size))
  clear b2
  go_wp2_with (at_builtin; go_loud (refine wpList_append_own _ rfl _ _ 22 rfl w0.heap.size 59 i0 (.agg #[.int .u8 0, .string ⟨#[]⟩, .int .i64 0]) 3 32 Tryz.underlying22 hin hz0 hz1 hz2 rfl (by decide) _ L.length (rw3 (gt L) L.length) rfl (World.ownsRow.alloc OW.out _) ⟨_, 0, none⟩ 1 1 [.int .u8 1, .string tTrue, .int .i64 0] rfl rfl (news_at2 _ _ _ _ rfl (by simp)) (by intro u hu; simp at hu; rcases hu with rfl | rfl | rfl <;> rfl) (by unfold maxLen; omega) (by omega) (by have h1 := HBB.out.size; have h3 := BW.out.size; simp; omega) ?_; intro v' w3 ho hg hne; clear hne))
  go_wp2_with fail
  go_ret2
  exact ⟨v', rfl, push1 (t := nmT tTrue) HBB.out HO.out BW.out hg ho⟩
set_option maxRecDepth 20000 in
set_option maxHeartbeats 4000000 in
theorem put_false (w0 : World) (a : Option Addr) (n cap : Nat) (g : Nat → CR) (hv : CV w0 a n g) (p : Nat) (hp : p < n) (hn : n ≤ 100000) (hk : ((g p).k : Int) = 1) (h1 : ¬ (g p).n = 1) (w : World) (v : Value) (L : List TkR) (hB : Below w0.heap.size w0 w) (hO : OwT w0.heap.size w v L) (hl : L.length ≤ 100000) : Calls Tryz.prog 42 #[v, .slice a n cap, .int .i64 p] w (PuP w0 L ([nmT tFalse], p + 1)) := by
  obtain ⟨i0, hin, hz0, hz1, hz2⟩ := infoT
  obtain ⟨b, off, rfl⟩ := hv.addr (by omega)
  obtain ⟨_, d0, d1, d2, d3, d4⟩ := (hv.below hB).at_ hp
  have hp0 : (0 : Int) ≤ p := by omega
  have hp1 : (p : Int) < n := by omega
  have hp2 : (p : Int) ≤ 100000 := by omega
  obtain ⟨c, hc⟩ : ∃ c, c = g p := ⟨_, rfl⟩
  rw [← hc] at d0 d1 d2 d3 d4 hk h1
  clear hc
  have HN := Lib.hid nameT_any
  have HM := Lib.hid markT_any
  have HBB := Lib.hid hB
  have HO := Lib.hid hO
  have HB1 := Lib.hid (fun o => below_box w o)
  clear hv hB hO
  go_enter Tryz.func42, Tryz.ntmps42
  go_wp2_with fail
  refine (HN.out _ _).mono ?_
  rintro e w2 ⟨rfl, b2⟩
  have B2 := Lib.hid b2
  have OW := Lib.hid (own_below (own_below HO.out (HB1.out _)) b2)
  have BW := Lib.hid ((HB1.out _).trans (b2.mono (HB1.out _).size))
  clear b2
  go_wp2_with (at_builtin; go_loud (refine wpList_append_own _ rfl _ _ 22 rfl w0.heap.size 59 i0 (.agg #[.int .u8 0, .string ⟨#[]⟩, .int .i64 0]) 3 32 Tryz.underlying22 hin hz0 hz1 hz2 rfl (by decide) _ L.length (rw3 (gt L) L.length) rfl (World.ownsRow.alloc OW.out _) ⟨_, 0, none⟩ 1 1 [.int .u8 1, .string tFalse, .int .i64 0] rfl rfl (news_at2 _ _ _ _ rfl (by simp)) (by intro u hu; simp at hu; rcases hu with rfl | rfl | rfl <;> rfl) (by unfold maxLen; omega) (by omega) (by have h1 := HBB.out.size; have h3 := BW.out.size; simp; omega) ?_; intro v' w3 ho hg hne; clear hne))
  go_wp2_with fail
  go_ret2
  exact ⟨v', rfl, push1 (t := nmT tFalse) HBB.out HO.out BW.out hg ho⟩
set_option maxRecDepth 20000 in
set_option maxHeartbeats 4000000 in
theorem put_text (w0 : World) (a : Option Addr) (n cap : Nat) (g : Nat → CR) (hv : CV w0 a n g) (p : Nat) (hp : p < n) (hn : n ≤ 100000) (hk : ((g p).k : Int) = 3) (w : World) (v : Value) (L : List TkR) (hB : Below w0.heap.size w0 w) (hO : OwT w0.heap.size w v L) (hl : L.length ≤ 100000) : Calls Tryz.prog 42 #[v, .slice a n cap, .int .i64 p] w (PuP w0 L ([⟨3, (g p).tx, 0⟩], p + 1)) := by
  obtain ⟨i0, hin, hz0, hz1, hz2⟩ := infoT
  obtain ⟨b, off, rfl⟩ := hv.addr (by omega)
  obtain ⟨_, d0, d1, d2, d3, d4⟩ := (hv.below hB).at_ hp
  have hp0 : (0 : Int) ≤ p := by omega
  have hp1 : (p : Int) < n := by omega
  have hp2 : (p : Int) ≤ 100000 := by omega
  obtain ⟨c, hc⟩ : ∃ c, c = g p := ⟨_, rfl⟩
  rw [← hc] at d0 d1 d2 d3 d4 hk ⊢
  clear hc
  have HN := Lib.hid nameT_any
  have HM := Lib.hid markT_any
  have HBB := Lib.hid hB
  have HO := Lib.hid hO
  have HB1 := Lib.hid (fun o => below_box w o)
  clear hv hB hO
  go_enter Tryz.func42, Tryz.ntmps42
  have OW := Lib.hid (fun o => own_below HO.out (HB1.out o))
  go_wp2_with (at_builtin; go_loud (refine wpList_append_own _ rfl _ _ 22 rfl w0.heap.size 59 i0 (.agg #[.int .u8 0, .string ⟨#[]⟩, .int .i64 0]) 3 32 Tryz.underlying22 hin hz0 hz1 hz2 rfl (by decide) _ L.length (rw3 (gt L) L.length) rfl (World.ownsRow.alloc (OW.out _) _) ⟨_, 0, none⟩ 1 1 [.int .u8 3, .string c.tx, .int .i64 0] rfl rfl (news_at2 _ _ _ _ rfl (by simp)) (by intro u hu; simp at hu; rcases hu with rfl | rfl | rfl <;> rfl) (by unfold maxLen; omega) (by omega) (by have h1 := HBB.out.size; simp; omega) ?_; intro v' w3 ho hg hne; clear hne))
  go_wp2_with fail
  go_ret2
  exact ⟨v', rfl, push1 (t := ⟨3, c.tx, 0⟩) HBB.out HO.out (HB1.out _) hg ho⟩
set_option maxRecDepth 20000 in
set_option maxHeartbeats 4000000 in
theorem put_enum (w0 : World) (a : Option Addr) (n cap : Nat) (g : Nat → CR) (hv : CV w0 a n g) (p : Nat) (hp : p < n) (hn : n ≤ 100000) (k0 : ¬ ((g p).k : Int) = 0) (k1 : ¬ ((g p).k : Int) = 1) (k2 : ¬ ((g p).k : Int) = 2) (k3 : ¬ ((g p).k : Int) = 3) (k5 : ¬ ((g p).k : Int) = 5) (k6 : ¬ ((g p).k : Int) = 6) (k7 : ¬ ((g p).k : Int) = 7) (w : World) (v : Value) (L : List TkR) (hB : Below w0.heap.size w0 w) (hO : OwT w0.heap.size w v L) (hl : L.length ≤ 100000) : Calls Tryz.prog 42 #[v, .slice a n cap, .int .i64 p] w (PuP w0 L ([nmT (g p).tx], p + 1)) := by
  obtain ⟨i0, hin, hz0, hz1, hz2⟩ := infoT
  obtain ⟨b, off, rfl⟩ := hv.addr (by omega)
  obtain ⟨_, d0, d1, d2, d3, d4⟩ := (hv.below hB).at_ hp
  have hp0 : (0 : Int) ≤ p := by omega
  have hp1 : (p : Int) < n := by omega
  have hp2 : (p : Int) ≤ 100000 := by omega
  obtain ⟨c, hc⟩ : ∃ c, c = g p := ⟨_, rfl⟩
  rw [← hc] at d0 d1 d2 d3 d4 k0 k1 k2 k3 k5 k6 k7 ⊢
  clear hc
  have HN := Lib.hid nameT_any
  have HM := Lib.hid markT_any
  have HBB := Lib.hid hB
  have HO := Lib.hid hO
  have HB1 := Lib.hid (fun o => below_box w o)
  clear hv hB hO
  go_enter Tryz.func42, Tryz.ntmps42
  go_wp2_with fail
  refine (HN.out _ _).mono ?_
  rintro e w2 ⟨rfl, b2⟩
  have B2 := Lib.hid b2
  have OW := Lib.hid (own_below (own_below HO.out (HB1.out _)) b2)
  have BW := Lib.hid ((HB1.out _).trans (b2.mono (HB1.out _).size))
  clear b2
  go_wp2_with (at_builtin; go_loud (refine wpList_append_own _ rfl _ _ 22 rfl w0.heap.size 59 i0 (.agg #[.int .u8 0, .string ⟨#[]⟩, .int .i64 0]) 3 32 Tryz.underlying22 hin hz0 hz1 hz2 rfl (by decide) _ L.length (rw3 (gt L) L.length) rfl (World.ownsRow.alloc OW.out _) ⟨_, 0, none⟩ 1 1 [.int .u8 1, .string c.tx, .int .i64 0] rfl rfl (news_at2 _ _ _ _ rfl (by simp)) (by intro u hu; simp at hu; rcases hu with rfl | rfl | rfl <;> rfl) (by unfold maxLen; omega) (by omega) (by have h1 := HBB.out.size; have h3 := BW.out.size; simp; omega) ?_; intro v' w3 ho hg hne; clear hne))
  go_wp2_with fail
  go_ret2
  exact ⟨v', rfl, push1 (t := nmT c.tx) HBB.out HO.out BW.out hg ho⟩
set_option maxRecDepth 20000 in
set_option maxHeartbeats 4000000 in
theorem put_int (w0 : World) (a : Option Addr) (n cap : Nat) (g : Nat → CR) (hv : CV w0 a n g) (p : Nat) (hp : p < n) (hn : n ≤ 100000) (hk : ((g p).k : Int) = 2) (hnn : i64ok (g p).n) (w : World) (v : Value) (L : List TkR) (hB : Below w0.heap.size w0 w) (hO : OwT w0.heap.size w v L) (hT : Tabs w) (hl : L.length ≤ 100000) : Calls Tryz.prog 42 #[v, .slice a n cap, .int .i64 p] w (PuP w0 L ([⟨2, itT (g p).n, 0⟩], p + 1)) := by
  obtain ⟨i0, hin, hz0, hz1, hz2⟩ := infoT
  obtain ⟨b, off, rfl⟩ := hv.addr (by omega)
  obtain ⟨_, d0, d1, d2, d3, d4⟩ := (hv.below hB).at_ hp
  have hp0 : (0 : Int) ≤ p := by omega
  have hp1 : (p : Int) < n := by omega
  have hp2 : (p : Int) ≤ 100000 := by omega
  obtain ⟨c, hc⟩ : ∃ c, c = g p := ⟨_, rfl⟩
  rw [← hc] at d0 d1 d2 d3 d4 hk hnn ⊢
  clear hc
  have HN := Lib.hid nameT_any
  have HM := Lib.hid markT_any
  have HBB := Lib.hid hB
  have HO := Lib.hid hO
  have HB1 := Lib.hid (fun o => below_box w o)
  clear hv hB hO
  have HW := Lib.hid (fun o => swrite_any c.n (w.alloc o) (hT.later (below_box w o)) hnn)
  clear hT hnn
  go_enter Tryz.func42, Tryz.ntmps42
  go_wp2_with fail
  refine (HW.out _).mono ?_
  rintro e w2 ⟨rfl, b2⟩
  have B2 := Lib.hid b2
  have OW := Lib.hid (own_below (own_below HO.out (HB1.out _)) b2)
  have BW := Lib.hid ((HB1.out _).trans (b2.mono (HB1.out _).size))
  clear b2
  go_wp2_with (at_builtin; go_loud (refine wpList_append_own _ rfl _ _ 22 rfl w0.heap.size 59 i0 (.agg #[.int .u8 0, .string ⟨#[]⟩, .int .i64 0]) 3 32 Tryz.underlying22 hin hz0 hz1 hz2 rfl (by decide) _ L.length (rw3 (gt L) L.length) rfl (World.ownsRow.alloc OW.out _) ⟨_, 0, none⟩ 1 1 [.int .u8 2, .string (itT c.n), .int .i64 0] rfl rfl (news_at2 _ _ _ _ rfl (by simp)) (by intro u hu; simp at hu; rcases hu with rfl | rfl | rfl <;> rfl) (by unfold maxLen; omega) (by omega) (by have h1 := HBB.out.size; have h3 := BW.out.size; simp; omega) ?_; intro v' w3 ho hg hne; clear hne))
  go_wp2_with fail
  go_ret2
  exact ⟨v', rfl, push1 (t := ⟨2, itT c.n, 0⟩) HBB.out HO.out BW.out hg ho⟩
set_option maxRecDepth 20000 in
set_option maxHeartbeats 4000000 in
theorem put_var (w0 : World) (a : Option Addr) (n cap : Nat) (g : Nat → CR) (hv : CV w0 a n g) (p : Nat) (hp : p < n) (hn : n ≤ 100000) (hk : ((g p).k : Int) = 5) (w : World) (v : Value) (L : List TkR) (hB : Below w0.heap.size w0 w) (hO : OwT w0.heap.size w v L) (hl : L.length ≤ 100000) : Calls Tryz.prog 42 #[v, .slice a n cap, .int .i64 p] w (PuP w0 L ([mkT mDollar, nmT (g p).tx], p + 1)) := by
  obtain ⟨i0, hin, hz0, hz1, hz2⟩ := infoT
  obtain ⟨b, off, rfl⟩ := hv.addr (by omega)
  obtain ⟨_, d0, d1, d2, d3, d4⟩ := (hv.below hB).at_ hp
  have hp0 : (0 : Int) ≤ p := by omega
  have hp1 : (p : Int) < n := by omega
  have hp2 : (p : Int) ≤ 100000 := by omega
  obtain ⟨c, hc⟩ : ∃ c, c = g p := ⟨_, rfl⟩
  rw [← hc] at d0 d1 d2 d3 d4 hk ⊢
  clear hc
  have HN := Lib.hid nameT_any
  have HM := Lib.hid markT_any
  have HBB := Lib.hid hB
  have HO := Lib.hid hO
  have HB1 := Lib.hid (fun o => below_box w o)
  clear hv hB hO
  go_enter Tryz.func42, Tryz.ntmps42
  go_wp2_with fail
  obtain ⟨A, hA⟩ : ∃ A, A = w.alloc (.cells #[.int .u8 5, .string c.nm, .string c.tx, .int .i64 c.n, .int .i64 c.m] 46) := ⟨_, rfl⟩
  have BA : Hid (Below w.heap.size w A) := Lib.hid (by rw [hA]; exact HB1.out _)
  have hgA : A.heap[w.heap.size]? = some (.cells #[.int .u8 5, .string c.nm, .string c.tx, .int .i64 c.n, .int .i64 c.m] 46) := by rw [hA]; exact heap_alloc_new _ _
  have hAs : w.heap.size < A.heap.size := by rw [hA]; simp
  have HCA : Hid (∀ W, Below A.heap.size A W → W.cell? ⟨w.heap.size, 2, none⟩ = some (.string c.tx)) := Lib.hid (fun W k => by
    have := (k.block _ hAs).trans hgA
    simp [World.cell?, this])
  have hc2 : A.cell? ⟨w.heap.size, 2, none⟩ = some (.string c.tx) := HCA.out _ (Below.refl _ _)
  rw [← hA]
  clear hA hgA hAs HB1 hin hz0 hz1 hz2
  obtain ⟨y, hy⟩ : ∃ y, y = w.heap.size := ⟨_, rfl⟩
  rw [← hy] at hc2 HCA ⊢
  have HY := Lib.hid hy
  clear hy
  have HDR : Hid (∀ W, Below A.drew.heap.size A.drew W → Below A.heap.size A W) := Lib.hid (fun W k => ((Below.refl A.heap.size A).drew).trans k)
  go_region_law (first
    | (go_simp; go_at_call 44; refine (HM.out _ _).mono ?_; rintro e w2 ⟨rfl, b2⟩; have B2 : Hid (Below A.heap.size A w2) := Lib.hid (HDR.out _ b2); have hc3 := HCA.out _ B2.out; clear b2)
    | (go_simp; go_at_call 45; refine (HN.out _ _).mono ?_; rintro e w3 ⟨rfl, b3⟩; have B3 : Hid (Below w.heap.size w w3) := Lib.hid (BA.out.trans ((B2.out.trans (b3.mono B2.out.size)).mono BA.out.size)); have OW := Lib.hid (own_below HO.out B3.out); clear b3)
    | (refine step_tok rfl (.tmp 61) (.tmp 66) rfl w0.heap.size 2 v L.length (rw3 (gt L) L.length) [.int .u8 4, .string mDollar, .int .i64 0, .int .u8 1, .string c.tx, .int .i64 0] w3.heap.size (by simp [Act.eval, Act.put]) (by simp [Act.eval, Act.put]) (World.ownsRow.alloc OW.out _) (heap_alloc_new _ _) rfl (by intro u hu; simp at hu; rcases hu with rfl | rfl | rfl | rfl | rfl | rfl <;> rfl) (by omega) (by have := HBB.out.size; have := B3.out.size; simp; omega) ?_; intro v' w4 ho hg))
  all_goals
    go_wp2_with fail
    go_ret2
    exact ⟨v', rfl, push2 (t := mkT mDollar) (u := nmT c.tx) HBB.out HO.out B3.out hg ho⟩
end Go.Proofs.YtmkkckhfdafjnaaGreatDoor.Li
/- Layer 18: put, of any value. -/
namespace Go.Proofs.YtmkkckhfdafjnaaGreatDoor.Li
open Go.RowKit Go.Maps
theorem kids_succ {g : Nat → CR} {n r m : Nat} {obj : Bool} {ns : List ByteArray} {q e : Nat} (h : kidsF (wk g n r) g n obj (m + 1) ns q = some e) : q < n ∧ ∃ q1 ns', wk g n r q = some q1 ∧ q < q1 ∧ q1 ≤ n ∧ kidsF (wk g n r) g n obj m ns' q1 = some e := by
  rw [kidsF] at h
  split at h
  · cases h
  rename_i hn
  split at h
  · cases hx : wk g n r q with
    | none => rw [hx] at h; cases h
    | some q1 =>
      rw [hx] at h
      have hlt := wk_lt _ _ _ hx
      exact ⟨by omega, q1, _, rfl, hlt.1, hlt.2, h⟩
  · cases h
theorem kw_succ {g : Nat → CR} {n r m : Nat} {obj : Bool} {q q1 : Nat} (h : wk g n r q = some q1) : kwF (tkW g r) g obj (m + 1) q = (mbT obj (g q).nm ++ (tkW g r q).1 ++ (kwF (tkW g r) g obj m q1).1, (kwF (tkW g r) g obj m q1).2) := by
  rw [kwF, tkW_end h]
/-- What may stand in cells. -/
structure PuC (g : Nat → CR) (n : Nat) : Prop where
  top : n ≤ 100000
  nn : ∀ i, i < n → i64ok (g i).n
  mm : ∀ i, i < n → headP (g i) = true → 0 ≤ (g i).m ∧ (g i).m ≤ 100000
def PuV (w0 : World) (a : Option Addr) (n cap : Nat) (g : Nat → CR) (r : Nat) : Prop := ∀ (p e : Nat) (w : World) (v : Value) (L : List TkR), wk g n r p = some e → Below w0.heap.size w0 w → OwT w0.heap.size w v L → L.length + (tkW g r p).1.length ≤ 100000 → Calls Tryz.prog 42 #[v, .slice a n cap, .int .i64 p] w (PuP w0 L ((tkW g r p).1, e))
theorem put_leaf (w0 : World) (hT0 : Tabs w0) (a : Option Addr) (n cap : Nat) (g : Nat → CR) (hv : CV w0 a n g) (hC : PuC g n) (p : Nat) (hp : p < n) (hh : headP (g p) = false) (w : World) (v : Value) (L : List TkR) (hB : Below w0.heap.size w0 w) (hO : OwT w0.heap.size w v L) (hl : L.length ≤ 100000) : Calls Tryz.prog 42 #[v, .slice a n cap, .int .i64 p] w (PuP w0 L (lfT (g p), p + 1)) := by
  have hn := hC.top
  have h67 : ¬ (g p).k = 6 ∧ ¬ (g p).k = 7 := by
    unfold headP at hh
    simpa using hh
  unfold lfT
  by_cases k0 : (g p).k = 0
  · rw [if_pos k0]; exact put_null w0 a n cap g hv p hp hn (by omega) w v L hB hO hl
  rw [if_neg k0]
  by_cases k1 : (g p).k = 1
  · rw [if_pos k1]
    by_cases h1 : (g p).n = 1
    · rw [if_pos h1]; exact put_true w0 a n cap g hv p hp hn (by omega) h1 w v L hB hO hl
    · rw [if_neg h1]; exact put_false w0 a n cap g hv p hp hn (by omega) h1 w v L hB hO hl
  rw [if_neg k1]
  by_cases k2 : (g p).k = 2
  · rw [if_pos k2]; exact put_int w0 a n cap g hv p hp hn (by omega) (hC.nn p hp) w v L hB hO (hT0.later hB) hl
  rw [if_neg k2]
  by_cases k3 : (g p).k = 3
  · rw [if_pos k3]; exact put_text w0 a n cap g hv p hp hn (by omega) w v L hB hO hl
  rw [if_neg k3]
  by_cases k5 : (g p).k = 5
  · rw [if_pos k5]; exact put_var w0 a n cap g hv p hp hn (by omega) w v L hB hO hl
  rw [if_neg k5]
  exact put_enum w0 a n cap g hv p hp hn (by omega) (by omega) (by omega) (by omega) (by omega) (by omega) (by omega) w v L hB hO hl
set_option maxRecDepth 20000 in
set_option maxHeartbeats 4000000 in
theorem put_list (w0 : World) (a : Option Addr) (n cap : Nat) (g : Nat → CR) (hv : CV w0 a n g) (hn : n ≤ 100000) (r : Nat) (ih : PuV w0 a n cap g r) (p e m : Nat) (hp : p < n) (hk : ((g p).k : Int) = 6) (hm : (g p).m = (m : Nat)) (hm2 : m ≤ 100000) (hks : kidsF (wk g n r) g n false m [] (p + 1) = some e) (w : World) (v : Value) (L : List TkR) (hB : Below w0.heap.size w0 w) (hO : OwT w0.heap.size w v L) (KT : List TkR) (hKT : KT = (kwF (tkW g r) g false m (p + 1)).1) (hl : L.length + (KT.length + 2) ≤ 100000) : Calls Tryz.prog 42 #[v, .slice a n cap, .int .i64 p] w (PuP w0 L (mkT mLB :: (KT ++ [mkT mRB]), e)) := by
  obtain ⟨i0, hin, hz0, hz1, hz2⟩ := infoT
  obtain ⟨b, off, rfl⟩ := hv.addr (by omega)
  obtain ⟨_, d0, d1, d2, d3, d4⟩ := (hv.below hB).at_ hp
  have hp0 : (0 : Int) ≤ p := by omega
  have hp1 : (p : Int) < n := by omega
  have hp2 : (p : Int) ≤ 100000 := by omega
  rw [hm] at d4
  obtain ⟨c, hc⟩ : ∃ c, c = g p := ⟨_, rfl⟩
  rw [← hc] at d0 d1 d2 d3 hk
  clear hc hm
  have HN := Lib.hid nameT_any
  have HM := Lib.hid markT_any
  have HBB := Lib.hid hB
  have HO := Lib.hid hO
  have HV := Lib.hid hv
  have HI := Lib.hid ih
  have HKS := Lib.hid hks
  have HKT := Lib.hid hKT
  have HB1 := Lib.hid (fun o => below_box w o)
  have hmi : (m : Int) ≤ 100000 := by omega
  clear hv hB hO ih hks hKT
  go_enter Tryz.func42, Tryz.ntmps42
  go_wp2_with fail
  obtain ⟨A, hA⟩ : ∃ A, A = w.alloc (.cells #[.int .u8 6, .string c.nm, .string c.tx, .int .i64 c.n, .int .i64 m] 46) := ⟨_, rfl⟩
  have BA : Hid (Below w.heap.size w A) := Lib.hid (by rw [hA]; exact HB1.out _)
  have HGA : Hid (A.heap[w.heap.size]? = some (.cells #[.int .u8 6, .string c.nm, .string c.tx, .int .i64 c.n, .int .i64 m] 46)) := Lib.hid (by rw [hA]; exact heap_alloc_new _ _)
  have HAS : Hid (w.heap.size < A.heap.size) := Lib.hid (by rw [hA]; simp)
  rw [← hA]
  clear hA HB1
  obtain ⟨y, hy⟩ : ∃ y, y = w.heap.size := ⟨_, rfl⟩
  have HY := Lib.hid hy
  rw [← hy] at HGA HAS ⊢
  clear hy
  refine (HM.out _ _).mono ?_
  rintro e0 w2 ⟨rfl, b2⟩
  have BW := Lib.hid (BA.out.trans (b2.mono BA.out.size))
  have OW := Lib.hid (own_below HO.out BW.out)
  have HG2 : Hid (y < w2.heap.size ∧ w2.heap[y]? = some (.cells #[.int .u8 6, .string c.nm, .string c.tx, .int .i64 c.n, .int .i64 m] 46)) := Lib.hid ⟨Nat.lt_of_lt_of_le HAS.out b2.size, (b2.block _ HAS.out).trans HGA.out⟩
  clear b2 HGA HAS
  go_wp2_with (at_builtin; go_loud (refine wpList_append_own _ rfl _ _ 22 rfl w0.heap.size 59 i0 (.agg #[.int .u8 0, .string ⟨#[]⟩, .int .i64 0]) 3 32 Tryz.underlying22 hin hz0 hz1 hz2 rfl (by decide) _ L.length (rw3 (gt L) L.length) rfl (World.ownsRow.alloc OW.out _) ⟨_, 0, none⟩ 1 1 [.int .u8 4, .string mLB, .int .i64 0] rfl rfl (news_at2 _ _ _ _ rfl (by simp)) (by intro u hu; simp at hu; rcases hu with rfl | rfl | rfl <;> rfl) (by unfold maxLen; omega) (by omega) (by have h1 := HBB.out.size; have h3 := BW.out.size; simp; omega) ?_; intro v' w3 ho hg hne; clear hne; have h4 : w3.cell? ⟨y, 4, none⟩ = some (.int .i64 m) := by (have q1 : w3.heap[y]? = _ := (hg.block y (by simp; have := HG2.out.1; omega) (fun e => by have := (HO.out.lt _ e.symm).2; have := HY.out; omega)).trans ((heap_alloc_old _ _ HG2.out.1).trans HG2.out.2); simp [World.cell?, q1])))
  have P3 := Lib.hid (push1 (t := mkT mLB) HBB.out HO.out BW.out hg ho)
  clear ho hg BW OW HG2
  obtain ⟨L1, hL1⟩ : ∃ L1, L1 = L ++ [mkT mLB] := ⟨_, rfl⟩
  rw [← hL1] at P3
  have HL1 := Lib.hid hL1
  have hl1 : L1.length + (KT.length + 1) ≤ 100000 := by rw [hL1, List.length_append, List.length_singleton]; omega
  clear hL1
  go_loopw [0, 9, 77] (fun v0 v9 v77 wr => ∃ (i q : Nat) (T : List TkR) (ns : List ByteArray), i ≤ m ∧ v77 = .int .i64 i ∧ v9 = .int .i64 q ∧ Hid (Below w0.heap.size w0 wr) ∧ Hid (OwT w0.heap.size wr v0 (L1 ++ T)) ∧ Hid (kidsF (wk g n r) g n false (m - i) ns q = some e) ∧ Hid (T ++ (kwF (tkW g r) g false (m - i) q).1 = KT)) (fun _ _ v77 _ => m - (intOf v77).toNat)
  case atStart => exact ⟨0, p + 1, [], [], Nat.zero_le _, rfl, by go_num, Lib.hid P3.out.1, Lib.hid (by rw [List.append_nil]; exact P3.out.2), Lib.hid HKS.out, Lib.hid (by rw [HKT.out]; rfl)⟩
  case round =>
    obtain ⟨i, q, T, ns, hi, rfl, rfl, HBR, HOR, HKR, HTR⟩ := hrel
    clear h4
    by_cases h1 : i < m
    · obtain ⟨k, hmk⟩ : ∃ k, m - i = k + 1 := ⟨m - i - 1, by omega⟩
      have hk2 := HKR.out
      rw [hmk] at hk2
      obtain ⟨hq, q1, ns1, hw1, hqq, hq1, hk3⟩ := kids_succ hk2
      have ht2 := HTR.out
      rw [hmk, kw_succ hw1] at ht2
      dsimp only at ht2
      have hlt : (i : Int) < m := by omega
      have hq0 : (0 : Int) ≤ q := by omega
      have hqn : (q : Int) < n := by omega
      have hlen : T.length + (0 + (tkW g r q).1.length) ≤ KT.length := by
        rw [← ht2]
        simp [mbT]
        (try omega)
      have HK3 : Hid (kidsF (wk g n r) g n false (m - (i + 1)) ns1 q1 = some e) := Lib.hid (by rw [show m - (i + 1) = k by omega]; exact hk3)
      have HT3 : Hid ((T ++ ([] ++ (tkW g r q).1)) ++ (kwF (tkW g r) g false (m - (i + 1)) q1).1 = KT) := Lib.hid (by rw [show m - (i + 1) = k by omega, ← ht2]; simp [mbT])
      have HI1 := Lib.hid (fun w v L => HI.out q q1 w v L hw1)
      clear hk2 hk3 ht2 hmk hw1 HKR HTR HKS HKT HI
      go_wp2_with (go_at_call 42; refine (HI1.out _ _ (L1 ++ T) HBR.out HOR.out (by rw [List.length_append]; omega)).mono ?_; rintro e3 w6 ⟨v6, rfl, b6, o6⟩; have P7 := Lib.hid (And.intro b6 o6); clear b6 o6)
      go_roundw
      case rel => exact ⟨i + 1, q1, T ++ ([] ++ (tkW g r q).1), ns1, by omega, by go_num, rfl, Lib.hid P7.out.1, Lib.hid (by have := P7.out.2; simpa using this), HK3, HT3⟩
      case measure => simp [intOf]; omega
    · have e1 : i = m := by omega
      subst e1
      have hqe := HKR.out
      have hTK := HTR.out
      rw [Nat.sub_self] at hqe hTK
      have hqe2 : q = e := by simpa [kidsF] using hqe
      have hTK2 : T = KT := by simpa [kwF] using hTK
      subst hqe2 hTK2
      have hlt : ¬ (i : Int) < i := by omega
      clear hqe hTK HKR HTR HKS HKT HI
      go_wp2_with fail
      refine (HM.out _ _).mono ?_
      rintro e1 w4 ⟨rfl, b4⟩
      have BW := Lib.hid b4
      have OW := Lib.hid (own_below HOR.out BW.out)
      clear b4
      obtain ⟨L2, hL2⟩ : ∃ L2, L2 = L1 ++ T := ⟨_, rfl⟩
      rw [← hL2] at OW HOR
      have HL2 := Lib.hid hL2
      have hl2 : L2.length = L1.length + T.length := by rw [hL2, List.length_append]
      clear hL2
      go_wp2_with ((at_builtin; go_loud (refine wpList_append_own _ rfl _ _ 22 rfl w0.heap.size 59 i0 (.agg #[.int .u8 0, .string ⟨#[]⟩, .int .i64 0]) 3 32 Tryz.underlying22 hin hz0 hz1 hz2 rfl (by decide) _ L2.length (rw3 (gt L2) L2.length) rfl (World.ownsRow.alloc OW.out _) ⟨_, 0, none⟩ 1 1 [.int .u8 4, .string mRB, .int .i64 0] rfl rfl (news_at2 _ _ _ _ rfl (by simp)) (by intro u hu; simp at hu; rcases hu with rfl | rfl | rfl <;> rfl) (by unfold maxLen; omega) (by omega) (by have h1 := HBR.out.size; have h3 := BW.out.size; simp; omega) ?_; intro v' w3 ho hg hne; clear hne)))
      go_wp2_with fail
      have P6 := push1 (t := mkT mRB) HBR.out HOR.out BW.out hg ho
      go_ret2
      exact ⟨_, rfl, P6.1, by have := P6.2; rw [HL2.out, HL1.out] at this; simpa using this⟩
set_option maxRecDepth 20000 in
set_option maxHeartbeats 4000000 in
theorem put_obj (w0 : World) (a : Option Addr) (n cap : Nat) (g : Nat → CR) (hv : CV w0 a n g) (hn : n ≤ 100000) (r : Nat) (ih : PuV w0 a n cap g r) (p e m : Nat) (hp : p < n) (hk : ((g p).k : Int) = 7) (hm : (g p).m = (m : Nat)) (hm2 : m ≤ 100000) (hks : kidsF (wk g n r) g n true m [] (p + 1) = some e) (w : World) (v : Value) (L : List TkR) (hB : Below w0.heap.size w0 w) (hO : OwT w0.heap.size w v L) (KT : List TkR) (hKT : KT = (kwF (tkW g r) g true m (p + 1)).1) (hl : L.length + (KT.length + 2) ≤ 100000) : Calls Tryz.prog 42 #[v, .slice a n cap, .int .i64 p] w (PuP w0 L (mkT mLC :: (KT ++ [mkT mRC]), e)) := by
  obtain ⟨i0, hin, hz0, hz1, hz2⟩ := infoT
  obtain ⟨b, off, rfl⟩ := hv.addr (by omega)
  obtain ⟨_, d0, d1, d2, d3, d4⟩ := (hv.below hB).at_ hp
  have hp0 : (0 : Int) ≤ p := by omega
  have hp1 : (p : Int) < n := by omega
  have hp2 : (p : Int) ≤ 100000 := by omega
  rw [hm] at d4
  obtain ⟨c, hc⟩ : ∃ c, c = g p := ⟨_, rfl⟩
  rw [← hc] at d0 d1 d2 d3 hk
  clear hc hm
  have HN := Lib.hid nameT_any
  have HM := Lib.hid markT_any
  have HBB := Lib.hid hB
  have HO := Lib.hid hO
  have HV := Lib.hid hv
  have HI := Lib.hid ih
  have HKS := Lib.hid hks
  have HKT := Lib.hid hKT
  have HB1 := Lib.hid (fun o => below_box w o)
  have hmi : (m : Int) ≤ 100000 := by omega
  clear hv hB hO ih hks hKT
  go_enter Tryz.func42, Tryz.ntmps42
  go_wp2_with fail
  obtain ⟨A, hA⟩ : ∃ A, A = w.alloc (.cells #[.int .u8 7, .string c.nm, .string c.tx, .int .i64 c.n, .int .i64 m] 46) := ⟨_, rfl⟩
  have BA : Hid (Below w.heap.size w A) := Lib.hid (by rw [hA]; exact HB1.out _)
  have HGA : Hid (A.heap[w.heap.size]? = some (.cells #[.int .u8 7, .string c.nm, .string c.tx, .int .i64 c.n, .int .i64 m] 46)) := Lib.hid (by rw [hA]; exact heap_alloc_new _ _)
  have HAS : Hid (w.heap.size < A.heap.size) := Lib.hid (by rw [hA]; simp)
  rw [← hA]
  clear hA HB1
  obtain ⟨y, hy⟩ : ∃ y, y = w.heap.size := ⟨_, rfl⟩
  have HY := Lib.hid hy
  rw [← hy] at HGA HAS ⊢
  clear hy
  refine (HM.out _ _).mono ?_
  rintro e0 w2 ⟨rfl, b2⟩
  have BW := Lib.hid (BA.out.trans (b2.mono BA.out.size))
  have OW := Lib.hid (own_below HO.out BW.out)
  have HG2 : Hid (y < w2.heap.size ∧ w2.heap[y]? = some (.cells #[.int .u8 7, .string c.nm, .string c.tx, .int .i64 c.n, .int .i64 m] 46)) := Lib.hid ⟨Nat.lt_of_lt_of_le HAS.out b2.size, (b2.block _ HAS.out).trans HGA.out⟩
  clear b2 HGA HAS
  go_wp2_with (at_builtin; go_loud (refine wpList_append_own _ rfl _ _ 22 rfl w0.heap.size 59 i0 (.agg #[.int .u8 0, .string ⟨#[]⟩, .int .i64 0]) 3 32 Tryz.underlying22 hin hz0 hz1 hz2 rfl (by decide) _ L.length (rw3 (gt L) L.length) rfl (World.ownsRow.alloc OW.out _) ⟨_, 0, none⟩ 1 1 [.int .u8 4, .string mLC, .int .i64 0] rfl rfl (news_at2 _ _ _ _ rfl (by simp)) (by intro u hu; simp at hu; rcases hu with rfl | rfl | rfl <;> rfl) (by unfold maxLen; omega) (by omega) (by have h1 := HBB.out.size; have h3 := BW.out.size; simp; omega) ?_; intro v' w3 ho hg hne; clear hne; have h4 : w3.cell? ⟨y, 4, none⟩ = some (.int .i64 m) := by (have q1 : w3.heap[y]? = _ := (hg.block y (by simp; have := HG2.out.1; omega) (fun e => by have := (HO.out.lt _ e.symm).2; have := HY.out; omega)).trans ((heap_alloc_old _ _ HG2.out.1).trans HG2.out.2); simp [World.cell?, q1])))
  have P3 := Lib.hid (push1 (t := mkT mLC) HBB.out HO.out BW.out hg ho)
  clear ho hg BW OW HG2
  obtain ⟨L1, hL1⟩ : ∃ L1, L1 = L ++ [mkT mLC] := ⟨_, rfl⟩
  rw [← hL1] at P3
  have HL1 := Lib.hid hL1
  have hl1 : L1.length + (KT.length + 1) ≤ 100000 := by rw [hL1, List.length_append, List.length_singleton]; omega
  clear hL1
  go_loopw [0, 9, 100] (fun v0 v9 v100 wr => ∃ (i q : Nat) (T : List TkR) (ns : List ByteArray), i ≤ m ∧ v100 = .int .i64 i ∧ v9 = .int .i64 q ∧ Hid (Below w0.heap.size w0 wr) ∧ Hid (OwT w0.heap.size wr v0 (L1 ++ T)) ∧ Hid (kidsF (wk g n r) g n true (m - i) ns q = some e) ∧ Hid (T ++ (kwF (tkW g r) g true (m - i) q).1 = KT)) (fun _ _ v100 _ => m - (intOf v100).toNat)
  case atStart => exact ⟨0, p + 1, [], [], Nat.zero_le _, rfl, by go_num, Lib.hid P3.out.1, Lib.hid (by rw [List.append_nil]; exact P3.out.2), Lib.hid HKS.out, Lib.hid (by rw [HKT.out]; rfl)⟩
  case round =>
    obtain ⟨i, q, T, ns, hi, rfl, rfl, HBR, HOR, HKR, HTR⟩ := hrel
    clear h4
    by_cases h1 : i < m
    · obtain ⟨k, hmk⟩ : ∃ k, m - i = k + 1 := ⟨m - i - 1, by omega⟩
      have hk2 := HKR.out
      rw [hmk] at hk2
      obtain ⟨hq, q1, ns1, hw1, hqq, hq1, hk3⟩ := kids_succ hk2
      have ht2 := HTR.out
      rw [hmk, kw_succ hw1] at ht2
      dsimp only at ht2
      have hlt : (i : Int) < m := by omega
      have hq0 : (0 : Int) ≤ q := by omega
      have hqn : (q : Int) < n := by omega
      have hlen : T.length + (2 + (tkW g r q).1.length) ≤ KT.length := by
        rw [← ht2]
        simp [mbT]
        (try omega)
      have HK3 : Hid (kidsF (wk g n r) g n true (m - (i + 1)) ns1 q1 = some e) := Lib.hid (by rw [show m - (i + 1) = k by omega]; exact hk3)
      have HT3 : Hid ((T ++ ([nmT (g q).nm, mkT mColon] ++ (tkW g r q).1)) ++ (kwF (tkW g r) g true (m - (i + 1)) q1).1 = KT) := Lib.hid (by rw [show m - (i + 1) = k by omega, ← ht2]; simp [mbT])
      have HI1 := Lib.hid (fun w v L => HI.out q q1 w v L hw1)
      clear hk2 hk3 ht2 hmk hw1 HKR HTR HKS HKT HI
      obtain ⟨_, f0, f1, f2, f3, f4⟩ := (HV.out.below HBR.out).at_ hq
      obtain ⟨x, hx⟩ : ∃ x, x = (g q).nm := ⟨_, rfl⟩
      rw [← hx] at f1 HT3
      clear hx f0 f2 f3 f4
      go_wp2_with fail
      refine (HN.out _ _).mono ?_
      rintro e1 w4 ⟨rfl, b4⟩
      have B4 := Lib.hid b4
      clear b4
      go_wp2_with fail
      refine (HM.out _ _).mono ?_
      rintro e2 w5 ⟨rfl, b5⟩
      have BW := Lib.hid (B4.out.trans (b5.mono B4.out.size))
      have OW := Lib.hid (own_below HOR.out BW.out)
      have hLT : (L1 ++ T).length ≤ 99000 + 1000 := by rw [List.length_append]; omega
      clear b5 B4
      obtain ⟨L2, hL2⟩ : ∃ L2, L2 = L1 ++ T := ⟨_, rfl⟩
      rw [← hL2] at OW HOR hLT
      have HL2 := Lib.hid hL2
      have hl2 : L2.length = L1.length + T.length := by rw [hL2, List.length_append]
      clear hL2
      go_wp2_with ((at_builtin; go_loud (refine wpList_append_own _ rfl _ _ 22 rfl w0.heap.size 59 i0 (.agg #[.int .u8 0, .string ⟨#[]⟩, .int .i64 0]) 3 32 Tryz.underlying22 hin hz0 hz1 hz2 rfl (by decide) _ L2.length (rw3 (gt L2) L2.length) rfl (World.ownsRow.alloc OW.out _) ⟨_, 0, none⟩ 2 2 [.int .u8 1, .string x, .int .i64 0, .int .u8 4, .string mColon, .int .i64 0] rfl rfl (news_at2 _ _ _ _ rfl (by simp)) (by intro u hu; simp at hu; rcases hu with rfl | rfl | rfl | rfl | rfl | rfl <;> rfl) (by unfold maxLen; omega) (by omega) (by have h1 := HBR.out.size; have h3 := BW.out.size; simp; omega) ?_; intro v' w3 ho hg hne; clear hne)))
      have P6 := Lib.hid (push2 (t := nmT x) (u := mkT mColon) HBR.out HOR.out BW.out hg ho)
      clear ho hg BW OW
      refine (HI1.out w3 v' (L2 ++ [nmT x, mkT mColon]) P6.out.1 P6.out.2 (by simp; omega)).mono ?_
      rintro e3 w6 ⟨v6, rfl, b6, o6⟩
      have P7 := Lib.hid (And.intro b6 o6)
      clear b6 o6
      go_wp2_with fail
      go_roundw
      case rel => exact ⟨i + 1, q1, T ++ ([nmT x, mkT mColon] ++ (tkW g r q).1), ns1, by omega, by go_num, rfl, Lib.hid P7.out.1, Lib.hid (by have := P7.out.2; rw [HL2.out] at this; simpa using this), HK3, HT3⟩
      case measure => simp [intOf]; omega
    · have e1 : i = m := by omega
      subst e1
      have hqe := HKR.out
      have hTK := HTR.out
      rw [Nat.sub_self] at hqe hTK
      have hqe2 : q = e := by simpa [kidsF] using hqe
      have hTK2 : T = KT := by simpa [kwF] using hTK
      subst hqe2 hTK2
      have hlt : ¬ (i : Int) < i := by omega
      clear hqe hTK HKR HTR HKS HKT HI
      go_wp2_with fail
      refine (HM.out _ _).mono ?_
      rintro e1 w4 ⟨rfl, b4⟩
      have BW := Lib.hid b4
      have OW := Lib.hid (own_below HOR.out BW.out)
      clear b4
      obtain ⟨L2, hL2⟩ : ∃ L2, L2 = L1 ++ T := ⟨_, rfl⟩
      rw [← hL2] at OW HOR
      have HL2 := Lib.hid hL2
      have hl2 : L2.length = L1.length + T.length := by rw [hL2, List.length_append]
      clear hL2
      go_wp2_with ((at_builtin; go_loud (refine wpList_append_own _ rfl _ _ 22 rfl w0.heap.size 59 i0 (.agg #[.int .u8 0, .string ⟨#[]⟩, .int .i64 0]) 3 32 Tryz.underlying22 hin hz0 hz1 hz2 rfl (by decide) _ L2.length (rw3 (gt L2) L2.length) rfl (World.ownsRow.alloc OW.out _) ⟨_, 0, none⟩ 1 1 [.int .u8 4, .string mRC, .int .i64 0] rfl rfl (news_at2 _ _ _ _ rfl (by simp)) (by intro u hu; simp at hu; rcases hu with rfl | rfl | rfl <;> rfl) (by unfold maxLen; omega) (by omega) (by have h1 := HBR.out.size; have h3 := BW.out.size; simp; omega) ?_; intro v' w3 ho hg hne; clear hne)))
      go_wp2_with fail
      have P6 := push1 (t := mkT mRC) HBR.out HOR.out BW.out hg ho
      go_ret2
      exact ⟨_, rfl, P6.1, by have := P6.2; rw [HL2.out, HL1.out] at this; simpa using this⟩
theorem put_any (w0 : World) (hT0 : Tabs w0) (a : Option Addr) (n cap : Nat) (g : Nat → CR) (hv : CV w0 a n g) (hC : PuC g n) : ∀ r, PuV w0 a n cap g r := by
  intro r
  induction r with
  | zero =>
    intro p e w v L hw hB hO hl
    have hlt := wk_lt _ _ _ hw
    rw [wk_z] at hw
    split at hw
    · cases hw
    split at hw
    · rename_i h
      cases hw
      simp only [Bool.and_eq_true, Bool.not_eq_true'] at h
      unfold tkW at hl ⊢
      exact put_leaf w0 hT0 a n cap g hv hC p (by omega) h.2 w v L hB hO (by omega)
    · cases hw
  | succ r ih =>
    intro p e w v L hw hB hO hl
    have hlt := wk_lt _ _ _ hw
    rw [wk_s] at hw
    split at hw
    · cases hw
    split at hw
    · rename_i hone
      split at hw
      · rename_i hh
        have hmm := hC.mm p (by omega) hh
        obtain ⟨m, hm⟩ := Int.eq_ofNat_of_zero_le hmm.1
        unfold tkW at hl ⊢
        rw [if_pos hh] at hl ⊢
        rw [hm, Int.toNat_natCast] at hw hl ⊢
        dsimp only at hl ⊢
        have h67 : (g p).k = 6 ∨ (g p).k = 7 := by
          unfold headP at hh
          simpa using hh
        rcases h67 with k | k
        · rw [k] at hl hw ⊢
          exact put_list w0 a n cap g hv hC.top r ih p e m (by omega) (by omega) hm (by omega) hw w v L hB hO _ rfl (by simp at hl; simp; omega)
        · rw [k] at hl hw ⊢
          exact put_obj w0 a n cap g hv hC.top r ih p e m (by omega) (by omega) hm (by omega) hw w v L hB hO _ rfl (by simp at hl; simp; omega)
      · rename_i hh
        cases hw
        unfold tkW at hl ⊢
        rw [if_neg hh] at hl ⊢
        exact put_leaf w0 hT0 a n cap g hv hC p (by omega) (by simpa using hh) w v L hB hO (by omega)
    · cases hw
end Go.Proofs.YtmkkckhfdafjnaaGreatDoor.Li
/- Layer 18: Tokens. -/
namespace Go.Proofs.YtmkkckhfdafjnaaGreatDoor.Li
open Go.RowKit Go.Maps
end Go.Proofs.YtmkkckhfdafjnaaGreatDoor.Li
/- Layer 18: the law's 'same'. -/
namespace Go.Proofs.YtmkkckhfdafjnaaGreatDoor.Li
open Go.RowKit Go.Maps
end Go.Proofs.YtmkkckhfdafjnaaGreatDoor.Li
/- Layer 18: the law's value, alive. -/
namespace Go.Proofs.YtmkkckhfdafjnaaGreatDoor.Li
open Go.RowKit Go.Maps
def alS : ByteArray := ⟨#[91, 36, 120, 44, 123, 97, 58, 82, 69, 68, 125, 93, 32, 122]⟩
def alL : List TkR := [⟨4, ⟨#[91]⟩, 0⟩, ⟨4, ⟨#[36]⟩, 1⟩, ⟨1, ⟨#[120]⟩, 2⟩, ⟨4, ⟨#[123]⟩, 4⟩, ⟨1, ⟨#[97]⟩, 5⟩, ⟨4, ⟨#[58]⟩, 6⟩, ⟨1, ⟨#[82, 69, 68]⟩, 7⟩, ⟨4, ⟨#[125]⟩, 10⟩, ⟨4, ⟨#[93]⟩, 11⟩, ⟨1, ⟨#[122]⟩, 13⟩, ⟨0, ⟨#[]⟩, 14⟩]
def alC : List CR := [⟨6, ⟨#[]⟩, ⟨#[]⟩, 0, 2⟩, ⟨5, ⟨#[]⟩, ⟨#[120]⟩, 0, 0⟩, ⟨7, ⟨#[]⟩, ⟨#[]⟩, 0, 1⟩, ⟨4, ⟨#[97]⟩, ⟨#[82, 69, 68]⟩, 0, 0⟩]
theorem al_lex : lexM alS = .ok alL := by kernel_rfl
theorem al_val (a : Option Addr) (c : Nat) : vaR ⟨a, 11, c, gt alL, false⟩ 0 = .ok (9, alC) := by kernel_rfl
theorem tkp_of {w : World} {a : Option Addr} {n c : Nat} {g : Nat → TkR} {fx : Bool} (h : TkV w a n g) (hn : n ≤ 100000) (hs : ∀ i, i < n → (g i).s.size ≤ 1000000) : TkP w w.heap.size ⟨a, n, c, g, fx⟩ := ⟨h, hn, hs⟩
set_option maxRecDepth 20000 in
set_option maxHeartbeats 2000000 in
theorem value18_ok (s : ByteArray) (fx : Bool) (w : World) (l : List TkR) (j : Nat) (M : List CR) (hc : LxC w) (hl : LimP w.heap.size w) (hs : s.size ≤ 1000000) (hX : lexM s = .ok l) (hn : l.length ≤ 100000) (hsm : ∀ i, i < l.length → (gt l i).s.size ≤ 1000000) (hv : ∀ a c, vaR ⟨a, l.length, c, gt l, fx⟩ 0 = .ok (j, M)) : Calls Tryz.prog 40 #[.string s, .bool fx] w fun e w' => ∃ v, e = .returned (.tuple #[v, .int .i64 j, .int .i64 0]) ∧ w'.ownsRow w.heap.size 46 5 v M.length (rw5 M) ∧ Below w.heap.size w w' := by
  have HX := lex_any s w hc hs
  rw [hX] at HX
  replace HX := Lib.hid HX
  have HL := Lib.hid hl
  have HV := Lib.hid hv
  clear hX hc hl hv
  go_enter Tryz.func40, Tryz.ntmps40
  go_wp2_with fail
  refine HX.out.mono ?_
  rintro e w1 ⟨b1, v1, rfl, o1⟩
  obtain ⟨a, c, rfl, t1⟩ := own_tk o1
  have B1 := Lib.hid b1
  have HVC := valc_any ⟨a, l.length, c, gt l, fx⟩ 0 w1 (HL.out.up b1) (tkp_of t1 hn hsm)
  rw [HV.out a c] at HVC
  replace HVC := Lib.hid HVC
  clear b1 o1 t1 HX
  go_wp2_with fail
  refine HVC.out.mono ?_
  rintro e w2 ⟨v2, rfl, o2, b2⟩
  have B2 := Lib.hid (And.intro o2 b2)
  clear o2 b2
  go_wp2_with fail
  go_ret3
  exact ⟨v2, rfl, own_base B2.out.1 B1.out.size, B1.out.trans (B2.out.2.mono B1.out.size)⟩
set_option maxRecDepth 20000 in
set_option maxHeartbeats 2000000 in
theorem alive18_any (w : World) (hc : LxC w) (hl : LimP w.heap.size w) : Calls Tryz.prog 14 #[] w fun e w' => e = .returned (.bool true) ∧ Below w.heap.size w w' := by
  have HV := Lib.hid (value18_ok alS false w alL 9 alC hc hl (by decide) al_lex (by decide) (by decide) al_val)
  clear hc hl
  go_enter Tryz.func14, Tryz.ntmps14
  go_wp2_with fail
  refine HV.out.mono ?_
  rintro e w1 ⟨v1, rfl, o1, b1⟩
  have B1 := Lib.hid b1
  have o1' : w1.ownsRow w.heap.size 46 5 v1 4 (rw5 alC) := o1
  obtain ⟨ad, cp, rfl, t1, _⟩ := own_cv (L := alC) rfl o1'
  have T1 := Lib.hid t1
  clear b1 o1 o1' HV t1
  go_wp2_with fail
  have o2 : (w1.alloc (.cells #[.int .u8 6, .string ⟨#[]⟩, .string ⟨#[]⟩, .int .i64 0, .int .i64 2, .int .u8 5, .string ⟨#[]⟩, .string ⟨#[120]⟩, .int .i64 0, .int .i64 0, .int .u8 7, .string ⟨#[]⟩, .string ⟨#[]⟩, .int .i64 0, .int .i64 1, .int .u8 4, .string ⟨#[97]⟩, .string ⟨#[82, 69, 68]⟩, .int .i64 0, .int .i64 0] 46)).ownsRow w1.heap.size 46 5 (.slice (some ⟨w1.heap.size, 0, none⟩) 4 4) 4 (rw5 alC) :=
    ⟨rfl, .inr ⟨w1.heap.size, 4, _, rfl, Nat.le_refl _, heap_alloc_new _ _, Nat.le_refl _, by decide, rfl, rfl⟩⟩
  obtain ⟨ad2, cp2, e2, t2, _⟩ := own_cv (L := alC) rfl o2
  injection e2 with e2a e2b e2c
  subst e2a e2c
  have b2 := below_box w1 (.cells #[.int .u8 6, .string ⟨#[]⟩, .string ⟨#[]⟩, .int .i64 0, .int .i64 2, .int .u8 5, .string ⟨#[]⟩, .string ⟨#[120]⟩, .int .i64 0, .int .i64 0, .int .u8 7, .string ⟨#[]⟩, .string ⟨#[]⟩, .int .i64 0, .int .i64 1, .int .u8 4, .string ⟨#[97]⟩, .string ⟨#[82, 69, 68]⟩, .int .i64 0, .int .i64 0] 46)
  have B2 := Lib.hid (B1.out.trans (b2.mono B1.out.size))
  have HS := rsame_any ad (some ⟨w1.heap.size, 0, none⟩) 4 4 cp 4 (gl alC) (gl alC) _ (T1.out.below b2) t2 (by decide)
  rw [show smB (gl alC) 4 (gl alC) 4 = true from sm_lists rfl] at HS
  clear o2 t2 b2 T1
  refine HS.mono ?_
  rintro e w3 ⟨rfl, b3⟩
  have B3 := Lib.hid (B2.out.trans (b3.mono B2.out.size))
  clear b3 HS
  go_wp2_with fail
  go_ret
  exact ⟨rfl, B3.out⟩
end Go.Proofs.YtmkkckhfdafjnaaGreatDoor.Li
/- Layer 18: an error has a number (plain). -/
namespace Go.Proofs.YtmkkckhfdafjnaaGreatDoor.Li
open Go.RowKit Go.Maps
/-- An error's number is not 0. -/
def NzR {α : Type} (x : LR α) : Prop := ∀ a m, x = .bad a m → m ≠ 0
theorem NzR.badd {α : Type} {p : Nat} {e : Int} (h : e ≠ 0) : NzR (.bad p e : LR α) := fun _ _ k => by cases k; exact h
theorem NzR.bind {α β : Type} {x : LR α} {f : α → LR β} (h : NzR x) (k : ∀ y, NzR (f y)) : NzR (x.bind f) := by
  cases x with
  | ok a => exact k a
  | bad p e => exact NzR.badd (h p e rfl)
end Go.Proofs.YtmkkckhfdafjnaaGreatDoor.Li
/- Layer 18: what LitFixed needs of what is read (plain). -/
namespace Go.Proofs.YtmkkckhfdafjnaaGreatDoor.Li
open Go.RowKit Go.Maps
end Go.Proofs.YtmkkckhfdafjnaaGreatDoor.Li
/- Layer 18: LitFixed's walk. -/
namespace Go.Proofs.YtmkkckhfdafjnaaGreatDoor.Li
open Go.RowKit Go.Maps
end Go.Proofs.YtmkkckhfdafjnaaGreatDoor.Li
/- Layer 18: the frame of LitFixed. -/
namespace Go.Proofs.YtmkkckhfdafjnaaGreatDoor
open Go.ChangeShapes Go.WideShapes Go.ChangeAt Go.RowKit
theorem own : ownKnob Tryz.prog.godebug = none := by kernel_rfl
/-! ### The listed table -/
theorem gLimits : Tryz.prog.globalNamed "provost/whole.limits" = some 1 := by kernel_rfl
theorem limP_of18 {W : World} (h : Nm.Lim W) : LimP W.heap.size W := ⟨World.block_lt_of_cell? _ _ h.1, h⟩
theorem limP_of17 {W : World} (h : Nm.Lim W) : LimP W.heap.size W := ⟨World.block_lt_of_cell? _ _ h.1, h⟩
theorem maxLen_of {W : World} (h : W.ShapedOpen Tryz.prog) : ∃ m, W.cell? ⟨4, 0, none⟩ = some (.int .i64 m) :=
  cell_of_shapedOpen_int h (of_decide_eq_true (by kernel_rfl)) (t := 3) (zero := #[.int .i64 0]) (by kernel_rfl) rfl (by kernel_rfl) (by kernel_rfl) Tryz.underlying3
theorem lxc_of {W : World} (l : Nm.Lim W) (hs : W.ShapedOpen Tryz.prog) : LxC W :=
  ⟨fun V b x hx => lint_any x V (lim_up l b) (by unfold maxLen; omega), fun V b x _ hx => Read_any x V (limP_of17 (lim_up l b)) (by unfold maxLen; omega), fun V b x hx => by
    obtain ⟨m, hm⟩ := maxLen_of hs
    have hcb : Lib.countB x ⟨#[9]⟩ ≤ x.size + 1 := Nat.le_succ_of_le (Lib.countB_le ⟨#[9]⟩ (by decide) x.size x (Nat.le_refl _))
    refine (Tryz.strings_ReplaceAll x ⟨#[9]⟩ ⟨#[92, 116]⟩ m V (by omega) ((b.cell (World.block_lt_of_cell? _ _ hm)).trans hm) (by decide) (by
      have : (⟨#[92, 116]⟩ : ByteArray).size = 2 := rfl
      rw [this]
      omega)).mono ?_
    rintro e w' ⟨rfl, bb⟩
    exact ⟨by rw [← rep_tab x], bb⟩⟩
theorem returns_sized_shaped {H : Type} {enc : TypeId × Value → H} {a : Assume} {C : Checked} {os : Os} {f : FuncId} {fn : Func} {s : ChangeSpec} {conds : List PathCond} {apart fresh handsOn again : Bool} {X : World → Array Value → Prop}
    (hX : ∀ (w w' : World) (args : Array Value), w.heap = w'.heap → X w args → X w' args)
    (own : ownKnob C.prog.godebug = none) (started : os.Started) (noInit : C.prog.inits.idxOf? f = none) (hfn : C.prog.funcs[f]? = some fn)
    (witness : ∃ (w : World) (tape : Tape) (i : Input), w.os = os ∧ (w.forCall tape i).Shaped C.prog ∧ i.vars = [] ∧ Input.okWide C.prog (w.forCall tape i) .any w.heap.size f i ∧
      ((s.pre enc C.prog fn conds apart (w.forCall tape i).memory i.args ∧ X (w.forCall tape i).memory i.args) ∧ sizedMet enc C.prog fn (OpenSpec.ofChange s) apart (w.forCall tape i).memory i.args) ∧ a.holds C.prog (lone (Frame.enter C.prog f i.args .normal) [] (w.forCall tape i)))
    (contract : ∀ (W : World) (base : Nat) (args : Array Value) (ds gs : List (DataW H)) (before : List MemPlace),
      (∀ (j : Nat) t v, fn.params[j]? = some t → args[j]? = some v → Value.okWide C.prog W .any base t v) →
      DataW.Whole enc C.prog fn.params.toList s.vars apart W args.toList ds gs before →
      (DataW.weightsEach C.prog (fn.params.toList ++ s.plain.varTypes C.prog) (ds ++ gs)).all (· ≤ reachBytes) = true → X W args → W.ShapedOpen C.prog →
      Calls C.prog f args W fun e W' => ∃ v, e = .returned v ∧ s.post enc C.prog fn apart fresh handsOn again W args v W') :
    ReturnsInHanded a C os f .any (fun w args => (s.pre enc C.prog fn conds apart w args ∧ X w args) ∧ sizedMet enc C.prog fn (OpenSpec.ofChange s) apart w args) (s.post enc C.prog fn apart fresh handsOn again) := by
  refine returnsInHanded_of_calls own started noInit witness ?_
  intro w tape i _ hsh _ hok hpre hholds
  obtain ⟨_, _, _, fn', hfn', _, _, _, _, hval⟩ := hok
  have e : fn' = fn := Option.some.inj (hfn'.symm.trans hfn)
  subst e
  obtain ⟨⟨⟨ds, gs, before, hw, hc⟩, hx⟩, hz⟩ := hpre
  have hw' := DataW.Whole.of_heap (w' := w.forCall tape i) (by rfl) hw
  refine (contract (w.forCall tape i) w.heap.size i.args ds gs before hval hw' (hz.weights hw) (hX _ _ _ (by rfl) hx) hsh).mono fun e W' ⟨v, he, hp⟩ => ?_
  subst he
  exact ChangeSpec.post_blind hp
end Go.Proofs.YtmkkckhfdafjnaaGreatDoor
/- Layer 18: the reader's marks and names, whatever its row. -/
namespace Go.Proofs.YtmkkckhfdafjnaaGreatDoor.Li.Rt
open Go.RowKit Go.Maps Go.WideMaps
/-- Only a block changes. -/
structure KpB (p : Nat) (w w' : World) : Prop where
  os : w'.os = w.os
  tape : w'.tape = w.tape
  output : w'.output = w.output
  size : w.heap.size ≤ w'.heap.size
  kept : ∀ k, k < w.heap.size → k ≠ p → w'.heap[k]? = w.heap[k]?
theorem KpB.trans {p : Nat} {w w1 w2 : World} (h : KpB p w w1) (k : KpB p w1 w2) : KpB p w w2 := ⟨k.os.trans h.os, k.tape.trans h.tape, k.output.trans h.output, Nat.le_trans h.size k.size, fun j h1 h2 => (k.kept j (Nat.lt_of_lt_of_le h1 h.size) h2).trans (h.kept j h1 h2)⟩
theorem KpB.below {p : Nat} {w w' : World} (h : KpB p w w') (hp : p ≤ w.heap.size) : Below p w w' := ⟨h.os, h.tape, h.output, h.size, fun k hk => h.kept k (by omega) (by omega)⟩
theorem KpB.of_below {p : Nat} {w w' : World} (b : Below w.heap.size w w') : KpB p w w' := ⟨b.os, b.tape, b.output, b.size, fun k h1 _ => b.block k h1⟩
theorem KpB.refl (p : Nat) (w : World) : KpB p w w := ⟨rfl, rfl, rfl, Nat.le_refl _, fun _ _ _ => rfl⟩
theorem KpB.of_fr {p : Nat} {v' : Value} {w w' : World} (f : Fr p (.slice none 0 0) v' w w') : KpB p w w' := ⟨f.os, f.tape, f.output, f.size, fun k h1 h2 => f.kept k h1 h2 (by intro e; cases e)⟩
theorem lim_kp {p : Nat} {w w' : World} (l : LimP p w) (k : KpB p w w') (hp : p ≤ w.heap.size) : LimP p w' := l.fr (v := .slice none 0 0) (v' := .slice none 0 0) ⟨k.os, k.tape, k.output, k.size, fun j h1 h2 _ => k.kept j h1 h2, fun _ e => by cases e⟩ hp (fun _ e => by cases e)
/-- A reader: its box. -/
structure RdB (w : World) (p : Nat) (s : LTok) (i op : Nat) (v : Value) : Prop where
  box : w.heap[p]? = some (.cells #[.slice s.a s.n s.c, .int .i64 i, .bool s.fx, .int .i64 op, v] 119)
  tok : TkP w p s
theorem RdB.of {w : World} {p : Nat} {s : LTok} {i op : Nat} {v : Value} {L : List CR} (h : Li.RdB w p s i op v L) : RdB w p s i op v := ⟨h.box, h.tok⟩
theorem RdB.lt {w : World} {p : Nat} {s : LTok} {i op : Nat} {v : Value} (h : RdB w p s i op v) : p < w.heap.size := (Array.getElem?_eq_some_iff.1 h.box).1
theorem RdB.c0 {w : World} {p : Nat} {s : LTok} {i op : Nat} {v : Value} (h : RdB w p s i op v) : w.cell? ⟨p, 0, none⟩ = some (.slice s.a s.n s.c) := by simp [World.cell?, h.box]
theorem RdB.c1 {w : World} {p : Nat} {s : LTok} {i op : Nat} {v : Value} (h : RdB w p s i op v) : w.cell? ⟨p, 1, none⟩ = some (.int .i64 i) := by simp [World.cell?, h.box]
theorem RdB.c3 {w : World} {p : Nat} {s : LTok} {i op : Nat} {v : Value} (h : RdB w p s i op v) : w.cell? ⟨p, 3, none⟩ = some (.int .i64 op) := by simp [World.cell?, h.box]
theorem RdB.c4 {w : World} {p : Nat} {s : LTok} {i op : Nat} {v : Value} (h : RdB w p s i op v) : w.cell? ⟨p, 4, none⟩ = some v := by simp [World.cell?, h.box]
theorem RdB.c2 {w : World} {p : Nat} {s : LTok} {i op : Nat} {v : Value} (h : RdB w p s i op v) : w.cell? ⟨p, 2, none⟩ = some (.bool s.fx) := by simp [World.cell?, h.box]
theorem RdB.z {w : World} {p : Nat} {s : LTok} {i op : Nat} {v : Value} (h : RdB w p s i op v) (o : Nat) : w.frozen? ⟨p, o, none⟩ = false := by simp [World.frozen?, h.box]
/-- The reader goes to a place. -/
theorem RdB.at_ {w : World} {p : Nat} {s : LTok} {i op : Nat} {v : Value} (h : RdB w p s i op v) (j : Nat) (x : Int) (hx : x = (j : Nat)) : RdB (w.setCell ⟨p, 1, none⟩ (.int .i64 x)) p s j op v ∧ KpB p w (w.setCell ⟨p, 1, none⟩ (.int .i64 x)) := by
  subst hx
  have hk : ∀ k, k ≠ p → (w.setCell ⟨p, 1, none⟩ (.int .i64 j)).heap[k]? = w.heap[k]? := fun k hk => Below.heap_setCell w ⟨p, 1, none⟩ _ k hk
  refine ⟨⟨?_, h.tok.kept (fun k hlt => hk k (by omega))⟩, ⟨rfl, rfl, rfl, by simp, fun k _ h1 => hk k h1⟩⟩
  simp [World.setCell, Array.getElem?_modify, h.box]
theorem RdB.open_ {w : World} {p : Nat} {s : LTok} {i op : Nat} {v : Value} (h : RdB w p s i op v) (j : Nat) (x : Int) (hx : x = (j : Nat)) : RdB (w.setCell ⟨p, 3, none⟩ (.int .i64 x)) p s i j v ∧ KpB p w (w.setCell ⟨p, 3, none⟩ (.int .i64 x)) := by
  subst hx
  have hk : ∀ k, k ≠ p → (w.setCell ⟨p, 3, none⟩ (.int .i64 j)).heap[k]? = w.heap[k]? := fun k hk => Below.heap_setCell w ⟨p, 3, none⟩ _ k hk
  refine ⟨⟨?_, h.tok.kept (fun k hlt => hk k (by omega))⟩, ⟨rfl, rfl, rfl, by simp, fun k _ h1 => hk k h1⟩⟩
  simp [World.setCell, Array.getElem?_modify, h.box]
/-- What lies above, and is made, leaves a reader as it was. -/
theorem RdB.below {w w' : World} {p : Nat} {s : LTok} {i op : Nat} {v : Value} (h : RdB w p s i op v) (b : Below w.heap.size w w') : RdB w' p s i op v ∧ KpB p w w' := by
  have hk : ∀ k, k < w.heap.size → w'.heap[k]? = w.heap[k]? := fun k hk => b.block k hk
  exact ⟨⟨by rw [hk p h.lt]; exact h.box, h.tok.kept (fun k hlt => hk k (by have := h.lt; omega))⟩, ⟨b.os, b.tape, b.output, b.size, fun k h1 _ => hk k h1⟩⟩
theorem RdB.dr {w w' : World} {p : Nat} {s : LTok} {i op : Nat} {v : Value} (h : RdB w p s i op v) (d : Dr w w') : RdB w' p s i op v ∧ KpB p w w' := h.below (d.below _)
theorem RdB.same {w w' : World} {p i op : Nat} {s : LTok} {v : Value} (h : RdB w p s i op v) (hp : w'.heap[p]? = w.heap[p]?) (ht : ∀ j, j < p → w'.heap[j]? = w.heap[j]?) : RdB w' p s i op v := ⟨hp.trans h.box, h.tok.kept ht⟩
set_option maxRecDepth 20000 in
theorem peek_any {p i op : Nat} {s : LTok} {v : Value} (w : World) (h : RdB w p s i op v) (hi : i ≤ 2000000) : Calls Tryz.prog 75 #[.pointer (some ⟨p, 0, none⟩)] w fun e w' => e = .returned (.agg #[.int .u8 (tkA s i).k, .string (tkA s i).s, .int .i64 (tkA s i).a]) ∧ Below w.heap.size w w' := by
  have hb0 := below_box w (.cells #[.int .u8 0, .string ⟨#[]⟩, .int .i64 0] 59)
  have hlt0 := h.lt
  have c0 := (h.below hb0).1.c0
  have c1 := (h.below hb0).1.c1
  have hT := (h.below hb0).1.tok
  have HB0 := Lib.hid hb0
  clear h hb0
  obtain ⟨a, n, c, g, fx⟩ := s
  dsimp only at c0 hT
  have hn : (n : Int) ≤ 100000 := by have := hT.2.1; dsimp only at this; omega
  by_cases hlt : i < n
  · obtain ⟨b, off, rfl, hb, d0, d1, d2⟩ := hT.at_ hlt
    dsimp only at d0 d1 d2 c0
    rw [tkA_in (s := ⟨some ⟨b, off, none⟩, n, c, g, fx⟩) hlt]
    dsimp only
    have hii : (i : Int) < n := by omega
    have hi0 : (0 : Int) ≤ i := by omega
    clear hT
    go_enter Tryz.func75, Tryz.ntmps75
    go_wp2_with fail
    go_quiet (fail)
    go_wp2_with fail
    go_region
    all_goals
      go_wp2_with fail
      exact ret_mk Tryz.results75 rfl (set3_heap (heap_alloc_new _ _)) rfl ⟨rfl, (below_drewN HB0.out _).trans (set3_below (Nat.le_refl _))⟩
  · rw [tkA_out (s := ⟨a, n, c, g, fx⟩) (by dsimp only; omega)]
    have hii : ¬ (i : Int) < n := by omega
    clear hT
    go_enter Tryz.func75, Tryz.ntmps75
    go_wp2_with fail
    go_quiet (fail)
    go_wp2_with fail
    exact ret_mk Tryz.results75 rfl (set3_heap (heap_alloc_new _ _)) rfl ⟨rfl, (below_drewN HB0.out _).trans (set3_below (Nat.le_refl _))⟩
set_option maxRecDepth 20000 in
theorem isMark_any {p i op : Nat} {s : LTok} {v : Value} (x : ByteArray) (w : World) (h : RdB w p s i op v) (hi : i ≤ 2000000) : Calls Tryz.prog 55 #[.pointer (some ⟨p, 0, none⟩), .string x] w fun e w' => e = .returned (.bool (isMk (tkA s i) x)) ∧ Below w.heap.size w w' := by
  have HP := Lib.hid (peek_any w h hi)
  clear h
  obtain ⟨t, ht⟩ : ∃ t, t = tkA s i := ⟨_, rfl⟩
  rw [← ht] at HP ⊢
  clear ht
  obtain ⟨k, b, a⟩ := t
  unfold isMk
  dsimp only at HP ⊢
  by_cases hk : k = 4
  · subst hk
    by_cases hb : b = x
    · subst hb
      go_enter Tryz.func55, Tryz.ntmps55
      go_wp2_with fail
      refine HP.out.mono ?_
      rintro e w1 ⟨rfl, d⟩
      have D := Lib.hid d
      clear d
      go_wp2_with fail
      go_ret
      exact ⟨by simp, D.out.alloc D.out.size _⟩
    · have q := tl_no hb
      go_enter Tryz.func55, Tryz.ntmps55
      go_wp2_with fail
      refine HP.out.mono ?_
      rintro e w1 ⟨rfl, d⟩
      have D := Lib.hid d
      clear d
      go_wp2_with fail
      go_ret
      exact ⟨by simp [hb], D.out.alloc D.out.size _⟩
  · have q : (k == 4) = false := beq_eq_false_iff_ne.2 hk
    go_enter Tryz.func55, Tryz.ntmps55
    go_wp2_with fail
    refine HP.out.mono ?_
    rintro e w1 ⟨rfl, d⟩
    have D := Lib.hid d
    clear d
    go_wp2_with fail
    go_ret
    exact ⟨by simp [hk], D.out.alloc D.out.size _⟩
set_option maxRecDepth 20000 in
theorem skip_yes {p i op : Nat} {s : LTok} {v : Value} {x : ByteArray} (w : World) (h : RdB w p s i op v) (hi : i ≤ 1999999) (hm : isMk (tkA s i) x = true) : Calls Tryz.prog 60 #[.pointer (some ⟨p, 0, none⟩), .string x] w fun e w' => e = .returned (.bool true) ∧ RdB w' p s (i + 1) op v ∧ KpB p w w' := by
  have HM := Lib.hid (isMark_any x w h (by omega))
  rw [hm] at HM
  have H := Lib.hid h
  clear h hm
  have hi2 : (i : Int) ≤ 1999999 := by omega
  go_enter Tryz.func60, Tryz.ntmps60
  go_wp2_with fail
  refine HM.out.mono ?_
  rintro e w1 ⟨rfl, d⟩
  have R1 := Lib.hid (H.out.below d)
  have c1 := R1.out.1.c1
  have z1 := R1.out.1.z 1
  have RN := Lib.hid (R1.out.1.at_ (i + 1) ((i : Int) + 1) (by omega))
  clear d
  go_wp2_with fail
  go_ret
  exact ⟨rfl, RN.out.1, R1.out.2.trans RN.out.2⟩
set_option maxRecDepth 20000 in
theorem skip_no {p i op : Nat} {s : LTok} {v : Value} {x : ByteArray} (w : World) (h : RdB w p s i op v) (hi : i ≤ 1999999) (hm : isMk (tkA s i) x = false) : Calls Tryz.prog 60 #[.pointer (some ⟨p, 0, none⟩), .string x] w fun e w' => e = .returned (.bool false) ∧ Below w.heap.size w w' := by
  have HM := Lib.hid (isMark_any x w h (by omega))
  rw [hm] at HM
  clear h hm
  go_enter Tryz.func60, Tryz.ntmps60
  go_wp2_with fail
  refine HM.out.mono ?_
  rintro e w1 ⟨rfl, d⟩
  have D := Lib.hid d
  clear d
  go_wp2_with fail
  go_ret
  exact ⟨rfl, D.out⟩
set_option maxRecDepth 20000 in
theorem fail_any {p i op : Nat} {s : LTok} {v : Value} (m : Int) (w : World) (h : RdB w p s i op v) : Calls Tryz.prog 53 #[.pointer (some ⟨p, 0, none⟩), .int .i64 m] w fun e w' => e = thr i m ∧ Below w.heap.size w w' := by
  have c1 := h.c1
  clear h
  go_enter Tryz.func53, Tryz.ntmps53
  go_wp2_with fail
  (try go_quiet (fail))
  (try go_wp2_with fail)
  simp only [bodyPost]
  exact ⟨trivial, rfl, Below.refl _ _⟩
set_option maxRecDepth 20000 in
theorem take_ok {p i op : Nat} {s : LTok} {v : Value} {x : ByteArray} (w : World) (h : RdB w p s i op v) (hi : i ≤ 1999999) (hm : isMk (tkA s i) x = true) : Calls Tryz.prog 56 #[.pointer (some ⟨p, 0, none⟩), .string x] w fun e w' => e = .returned (.tuple #[]) ∧ RdB w' p s (i + 1) op v ∧ KpB p w w' := by
  have HM := Lib.hid (skip_yes w h hi hm)
  clear h hm
  go_enter Tryz.func56, Tryz.ntmps56
  go_wp2_with fail
  refine HM.out.mono ?_
  rintro e w1 ⟨rfl, r1, f1⟩
  have R1 := Lib.hid (And.intro r1 f1)
  clear r1 f1
  go_wp2_with fail
  go_end0
  exact ⟨rfl, R1.out⟩
set_option maxRecDepth 20000 in
theorem take_bad {p i op : Nat} {s : LTok} {v : Value} {x : ByteArray} (w : World) (h : RdB w p s i op v) (hi : i ≤ 1999999) (hm : isMk (tkA s i) x = false) : Calls Tryz.prog 56 #[.pointer (some ⟨p, 0, none⟩), .string x] w fun e w' => e = thr i 180 ∧ Below w.heap.size w w' := by
  have HM := Lib.hid (skip_no w h hi hm)
  have HF := Lib.hid (fun W (d : Below w.heap.size w W) => fail_any 180 W (h.below d).1)
  clear h hm
  go_enter Tryz.func56, Tryz.ntmps56
  go_wp2_with fail
  refine HM.out.mono ?_
  rintro e w1 ⟨rfl, d⟩
  have D := Lib.hid d
  clear d
  go_wp2_with fail
  refine (HF.out _ D.out).mono ?_
  rintro e w2 ⟨he, d⟩
  unfold thr at he
  subst he
  (try go_wp2_with fail)
  simp only [bodyPost]
  exact ⟨trivial, rfl, D.out.trans (d.mono D.out.size)⟩
set_option maxRecDepth 20000 in
theorem isName_any {p i op : Nat} {s : LTok} {v : Value} (w : World) (h : RdB w p s i op v) (hi : i ≤ 2000000) : Calls Tryz.prog 78 #[.pointer (some ⟨p, 0, none⟩)] w fun e w' => e = .returned (.bool (isNm (tkA s i))) ∧ Below w.heap.size w w' := by
  have HP := Lib.hid (peek_any w h hi)
  have hz := tkA_small h.tok i
  clear h
  obtain ⟨t, ht⟩ : ∃ t, t = tkA s i := ⟨_, rfl⟩
  rw [← ht] at HP hz ⊢
  clear ht
  obtain ⟨k, b, a⟩ := t
  unfold isNm
  dsimp only at HP hz ⊢
  have HN := Lib.hid (fun W => lname_any b W hz)
  by_cases hk : k = 1
  · subst hk
    go_enter Tryz.func78, Tryz.ntmps78
    go_wp2_with fail
    refine HP.out.mono ?_
    rintro e w1 ⟨rfl, d⟩
    have D := Lib.hid d
    clear d
    go_wp2_with (go_at_call 43; refine (HN.out _).mono ?_; rintro e w2 ⟨rfl, rfl⟩)
    go_ret
    exact ⟨by simp, D.out.alloc D.out.size _⟩
  · have q : (k == 1) = false := beq_eq_false_iff_ne.2 hk
    go_enter Tryz.func78, Tryz.ntmps78
    go_wp2_with fail
    refine HP.out.mono ?_
    rintro e w1 ⟨rfl, d⟩
    have D := Lib.hid d
    clear d
    go_wp2_with fail
    go_ret
    exact ⟨by simp [hk], D.out.alloc D.out.size _⟩
set_option maxRecDepth 20000 in
theorem name_no {p i op : Nat} {s : LTok} {v : Value} (w : World) (h : RdB w p s i op v) (hi : i ≤ 1999999) (hm : isNm (tkA s i) = false) : Calls Tryz.prog 58 #[.pointer (some ⟨p, 0, none⟩)] w fun e w' => e = thr i 180 ∧ Below w.heap.size w w' := by
  have HM := Lib.hid (isName_any w h (by omega))
  have HF := Lib.hid (fun W (d : Below w.heap.size w W) => fail_any 180 W (h.below d).1)
  rw [hm] at HM
  clear h hm
  go_enter Tryz.func58, Tryz.ntmps58
  go_wp2_with fail
  refine HM.out.mono ?_
  rintro e w1 ⟨rfl, d⟩
  have D := Lib.hid d
  clear d
  go_wp2_with fail
  refine (HF.out _ D.out).mono ?_
  rintro e w2 ⟨he, d⟩
  unfold thr at he
  subst he
  (try go_wp2_with fail)
  simp only [bodyPost]
  exact ⟨trivial, rfl, D.out.trans (d.mono D.out.size)⟩
set_option maxRecDepth 20000 in
theorem name_yes {p i op : Nat} {s : LTok} {v : Value} (w : World) (h : RdB w p s i op v) (hi : i ≤ 1999999) (hm : isNm (tkA s i) = true) : Calls Tryz.prog 58 #[.pointer (some ⟨p, 0, none⟩)] w fun e w' => e = .returned (.string (tkA s i).s) ∧ RdB w' p s (i + 1) op v ∧ KpB p w w' := by
  have HM := Lib.hid (isName_any w h (by omega))
  have hin := isNm_in hm
  rw [hm] at HM
  have H := Lib.hid h
  clear h hm
  rw [tkA_in hin]
  have hi2 : (i : Int) ≤ 1999999 := by omega
  have hi0 : (0 : Int) ≤ i := by omega
  have hii : (i : Int) < s.n := by omega
  go_enter Tryz.func58, Tryz.ntmps58
  go_wp2_with fail
  refine HM.out.mono ?_
  rintro e w1 ⟨rfl, d⟩
  have R1 := Lib.hid (H.out.below d)
  have c1 := R1.out.1.c1
  have z1 := R1.out.1.z 1
  have RN := Lib.hid (R1.out.1.at_ (i + 1) ((i : Int) + 1) (by omega))
  obtain ⟨W2, hW2⟩ : ∃ W2, W2 = w1.setCell ⟨p, 1, none⟩ (.int .i64 ((i : Int) + 1)) := ⟨_, rfl⟩
  rw [← hW2] at RN
  have c0' := RN.out.1.c0
  have c1' : W2.cell? ⟨p, 1, none⟩ = some (.int .i64 ((i : Int) + 1)) := by rw [RN.out.1.c1]; simp
  obtain ⟨b, off, ha, hb, d0, d1, d2⟩ := RN.out.1.tok.at_ hin
  rw [ha] at c0'
  have HW2 := Lib.hid hW2
  clear d hW2
  go_wp2_with fail
  rw [← HW2.out]
  go_quiet (fail)
  go_wp2_with fail
  go_ret
  have R3 := RN.out.1.dr (w' := W2.drewN nq) ⟨rfl, rfl, rfl, rfl⟩
  exact ⟨rfl, R3.1, R1.out.2.trans (RN.out.2.trans R3.2)⟩
/-- A name is put to the names: the reader stays. -/
theorem RdB.named {w w' : World} {p i op bm : Nat} {s : LTok} {v : Value} (h : RdB w p s i op v) (hab : p < bm) (g : w.grownBy w' (some bm)) : RdB w' p s i op v ∧ Below p w w' := by
  have hl := h.lt
  have hk : ∀ b, b < w.heap.size → b ≠ bm → w'.heap[b]? = w.heap[b]? := fun b hb hne => g.block b hb (fun e => hne (by cases e; rfl))
  refine ⟨h.same (hk p hl (by omega)) (fun j hj => hk j (by omega) (by omega)), g.os, g.tape, g.output, g.size, fun j hj => hk j (by omega) (by omega)⟩
def NwP (w : World) (p : Nat) (s : LTok) (i op bm n : Nat) (v : Value) (ns : List ByteArray) (x : LR ByteArray) (e : Ending) (w' : World) : Prop := match x with
  | .ok nm => e = .returned (.string nm) ∧ RdB w' p s (i + 1) op v ∧ Met w' bm (n + 1) (nm :: ns) ∧ Below p w w' ∧ ∃ W, KpB p w W ∧ W.grownBy w' (some bm) ∧ bm < W.heap.size
  | .bad a m => e = thr a m ∧ Below p w w'
set_option maxRecDepth 20000 in
set_option maxHeartbeats 4000000 in
theorem newName_any {p i op bm n : Nat} {s : LTok} {v : Value} {ns : List ByteArray} (w : World) (h : RdB w p s i op v) (hm : Met w bm n ns) (ha : p < bm) (hi : i ≤ 1999999) (hn : n ≤ 1000000) : Calls Tryz.prog 62 #[.pointer (some ⟨p, 0, none⟩), .map (some bm)] w (NwP w p s i op bm n v ns (nwL s ns i)) := by
  have HP := Lib.hid (peek_any w h (by omega))
  have HIN := Lib.hid (fun W (k : Below w.heap.size w W) => isName_any W (h.below k).1 (by omega))
  have HF := Lib.hid (fun W (k : Below w.heap.size w W) => fail_any 42 W (h.below k).1)
  have HNY := Lib.hid (fun W (k : Below w.heap.size w W) => name_yes W (h.below k).1 hi)
  have HNN := Lib.hid (fun W (k : Below w.heap.size w W) => name_no W (h.below k).1 hi)
  have HFR := Lib.hid (fun W (k : Below w.heap.size w W) => (h.below k).2)
  have HLT := Lib.hid h.lt
  have HA := Lib.hid ha
  have HMT := Lib.hid (fun W (k : Below w.heap.size w W) => met_same hm (k.block _ (met_lt hm)))
  have HML := Lib.hid (met_lt hm)
  have hz := tkA_small h.tok i
  clear h hm ha
  obtain ⟨Z, hZ⟩ : ∃ Z, Z = nwL s ns i := ⟨_, rfl⟩
  rw [← hZ]
  unfold nwL at hZ
  obtain ⟨t, ht⟩ : ∃ t, t = tkA s i := ⟨_, rfl⟩
  rw [← ht] at HP HIN HNY HNN hz hZ
  clear ht
  obtain ⟨k, x, a⟩ := t
  dsimp only at HP HIN HNY HNN hz hZ
  have hkey : keyOf Tryz.prog 9 (.string x) = some (keyL x) := keyOf_string_mk Tryz.underlying9 (by unfold maxLen; omega)
  have HKEY := Lib.hid hkey
  have hh := has_setN ns x
  obtain ⟨tw, htw⟩ : ∃ tw, tw = ns.any (fun y => decide (y = x)) := ⟨_, rfl⟩
  obtain ⟨nm, hnm⟩ : ∃ nm, nm = isNm ⟨k, x, a⟩ := ⟨_, rfl⟩
  rw [← htw] at hh hZ
  rw [← hnm] at HIN HNY HNN hZ
  have HH := Lib.hid hh
  have BASE := Lib.hid (fun (V : World) (h : V.ownsMap Tryz.prog 9 (unitElem (H := Unit)) bm (n + 1) ((setN ns).put (keyL x) (.agg []))) => (show Met V bm (n + 1) (x :: ns) by unfold Met; rw [setN_cons]; exact h))
  have hfd := fldT k a x
  clear hkey hh htw hnm hz
  cases tw with
  | true =>
    cases nm with
    | true =>
      have HZ : Hid (Z = .bad i 42) := Lib.hid (by rw [hZ, if_pos ⟨rfl, rfl⟩])
      clear hZ
      go_enter Tryz.func62, Tryz.ntmps62
      go_wp2_with fail
      refine HP.out.mono ?_
      rintro e w1 ⟨rfl, b1⟩
      have B1 := Lib.hid b1
      have HOWN := Lib.hid (HMT.out _ b1)
      have HOWA := Lib.hid (HMT.out _ (b1.trans ((below_box w1 (.cells #[] 68)).mono b1.size)))
      have BA := Lib.hid (b1.trans ((below_box w1 (.cells #[] 68)).mono b1.size))
      clear b1
      go_wp2_with (at_lookup; refine wpList_lookup_own_unit _ rfl _ _ 98 rfl 9 68 law9 Tryz.underlying98 (zeroU _) bm n _ rfl HOWN.out _ _ rfl HKEY.out ?_; rw [HH.out])
      refine (HIN.out _ BA.out).mono ?_
      rintro e w2 ⟨rfl, b2⟩
      have B2 := Lib.hid (BA.out.trans (b2.mono BA.out.size))
      clear b2
      go_wp2_with fail
      refine (HF.out _ B2.out).mono ?_
      rintro e w9 ⟨he, b9⟩
      unfold thr at he
      subst he
      (try go_wp2_with fail)
      rw [HZ.out]
      simp only [bodyPost]
      exact ⟨trivial, rfl, ((B2.out).trans (b9.mono (B2.out).size)).mono (Nat.le_of_lt HLT.out)⟩
    | false =>
      have HZ : Hid (Z = .bad i 180) := Lib.hid (by rw [hZ, if_neg (fun e => by cases e.2), if_neg (by decide)])
      clear hZ
      go_enter Tryz.func62, Tryz.ntmps62
      go_wp2_with fail
      refine HP.out.mono ?_
      rintro e w1 ⟨rfl, b1⟩
      have B1 := Lib.hid b1
      have HOWN := Lib.hid (HMT.out _ b1)
      have HOWA := Lib.hid (HMT.out _ (b1.trans ((below_box w1 (.cells #[] 68)).mono b1.size)))
      have BA := Lib.hid (b1.trans ((below_box w1 (.cells #[] 68)).mono b1.size))
      clear b1
      go_wp2_with (at_lookup; refine wpList_lookup_own_unit _ rfl _ _ 98 rfl 9 68 law9 Tryz.underlying98 (zeroU _) bm n _ rfl HOWN.out _ _ rfl HKEY.out ?_; rw [HH.out])
      refine (HIN.out _ BA.out).mono ?_
      rintro e w2 ⟨rfl, b2⟩
      have B2 := Lib.hid (BA.out.trans (b2.mono BA.out.size))
      clear b2
      go_wp2_with fail
      refine (HNN.out _ B2.out trivial).mono ?_
      rintro e w9 ⟨he, b9⟩
      unfold thr at he
      subst he
      (try go_wp2_with fail)
      rw [HZ.out]
      simp only [bodyPost]
      exact ⟨trivial, rfl, ((B2.out).trans (b9.mono (B2.out).size)).mono (Nat.le_of_lt HLT.out)⟩
  | false =>
    cases nm with
    | false =>
      have HZ : Hid (Z = .bad i 180) := Lib.hid (by rw [hZ, if_neg (fun e => by cases e.2), if_neg (by decide)])
      clear hZ
      go_enter Tryz.func62, Tryz.ntmps62
      go_wp2_with fail
      refine HP.out.mono ?_
      rintro e w1 ⟨rfl, b1⟩
      have B1 := Lib.hid b1
      have HOWN := Lib.hid (HMT.out _ b1)
      have HOWA := Lib.hid (HMT.out _ (b1.trans ((below_box w1 (.cells #[] 68)).mono b1.size)))
      have BA := Lib.hid (b1.trans ((below_box w1 (.cells #[] 68)).mono b1.size))
      clear b1
      go_wp2_with (at_lookup; refine wpList_lookup_own_unit _ rfl _ _ 98 rfl 9 68 law9 Tryz.underlying98 (zeroU _) bm n _ rfl HOWN.out _ _ rfl HKEY.out ?_; rw [HH.out])
      refine (HNN.out _ BA.out trivial).mono ?_
      rintro e w9 ⟨he, b9⟩
      unfold thr at he
      subst he
      (try go_wp2_with fail)
      rw [HZ.out]
      simp only [bodyPost]
      exact ⟨trivial, rfl, ((BA.out).trans (b9.mono (BA.out).size)).mono (Nat.le_of_lt HLT.out)⟩
    | true =>
      have HZ : Hid (Z = .ok x) := Lib.hid (by rw [hZ, if_neg (fun e => by cases e.1), if_pos rfl])
      clear hZ
      go_enter Tryz.func62, Tryz.ntmps62
      go_wp2_with fail
      refine HP.out.mono ?_
      rintro e w1 ⟨rfl, b1⟩
      have B1 := Lib.hid b1
      have HOWN := Lib.hid (HMT.out _ b1)
      have HOWA := Lib.hid (HMT.out _ (b1.trans ((below_box w1 (.cells #[] 68)).mono b1.size)))
      have BA := Lib.hid (b1.trans ((below_box w1 (.cells #[] 68)).mono b1.size))
      clear b1
      go_wp2_with (at_lookup; refine wpList_lookup_own_unit _ rfl _ _ 98 rfl 9 68 law9 Tryz.underlying98 (zeroU _) bm n _ rfl HOWN.out _ _ rfl HKEY.out ?_; rw [HH.out])
      refine (HNY.out _ BA.out trivial).mono ?_
      rintro e w3 ⟨rfl, r3, f3⟩
      have F3 := Lib.hid ((HFR.out _ BA.out).trans f3)
      have M3 := Lib.hid (met_same HOWA.out (f3.kept _ (met_lt HOWA.out) (by have := HA.out; omega)))
      have R3 := Lib.hid r3
      clear r3 f3
      go_wp2_with (at_mapUpdate; refine wpList_mapUpdate_own _ rfl _ _ _ 98 rfl 9 68 law9 Tryz.underlying98 (unitElem (H := Unit)) bm n _ rfl M3.out (by unfold maxLen; omega) _ _ _ rfl rfl HKEY.out _ [] unitElem_mk ?_; intro w4 hown1 hg1; have R4 := Lib.hid (R3.out.named HA.out hg1); have G4 := Lib.hid hg1; have M4 := Lib.hid (BASE.out _ hown1); clear hown1 hg1)
      go_ret
      rw [HZ.out]
      exact ⟨rfl, R4.out.1, M4.out, ((F3.out.below (Nat.le_of_lt HLT.out))).trans R4.out.2, _, F3.out, G4.out, met_lt M3.out⟩
end Go.Proofs.YtmkkckhfdafjnaaGreatDoor.Li.Rt
/- Layer 18: types, arguments, directives: what their tokens tell (plain), and how they lie in memory. -/
namespace Go.Proofs.YtmkkckhfdafjnaaGreatDoor.Li
open Go.RowKit Go.Maps
def mBang : ByteArray := ⟨#[33]⟩
def mLP : ByteArray := ⟨#[40]⟩
def mRP : ByteArray := ⟨#[41]⟩
def mAt : ByteArray := ⟨#[64]⟩
/-- A type, as far as it is read. -/
structure TyO where
  i : Nat
  rd : Nat
  nm : ByteArray
  ws : List Nat
def tyT (s : LTok) (i rd : Nat) (nm : ByteArray) (ws : List Nat) : LR TyO := if isMk (tkA s i) mBang = true then (if rd = 8 then .bad i 30 else .ok ⟨i + 1, rd + 1, nm, 1 :: ws⟩) else .ok ⟨i, rd, nm, ws⟩
def tyF (s : LTok) : Nat → Nat → Nat → LR TyO
  | 0, i, _ => .bad i 30
  | f + 1, i, rd => if isMk (tkA s i) mLB = true then (if rd = 8 then .bad i 30 else (tyF s f (i + 1) (rd + 1)).bind fun y => if isMk (tkA s y.i) mRB = true then tyT s (y.i + 1) y.rd y.nm (2 :: y.ws) else .bad y.i 180)
    else if isNm (tkA s i) = true then tyT s (i + 1) rd (tkA s i).s [] else .bad i 180
def tyL (s : LTok) (i : Nat) : LR TyO := tyF s 9 i 0
/-- An argument. -/
abbrev AgR := ByteArray × List CR
def agF (s : LTok) : Nat → Nat → List ByteArray → List AgR → LR (Nat × List AgR)
  | 0, i, _, _ => .bad i 180
  | f + 1, i, ns, A => if 0 < A.length ∧ isMk (tkA s i) mRP = true then .ok (i + 1, A) else (nwL s ns i).bind fun nm =>
    if isMk (tkA s (i + 1)) mColon = true then (ltL s (i + 2)).bind fun y => agF s f y.1 (nm :: ns) (A ++ [(nm, y.2)]) else .bad (i + 1) 180
def agL (s : LTok) (i : Nat) : LR (Nat × List AgR) := if isMk (tkA s i) mLP = true then agF s (s.n + 1 - (i + 1)) (i + 1) [] [] else .ok (i, [])
/-- A directive. -/
abbrev DrR := ByteArray × List AgR
def drF (s : LTok) : Nat → Nat → List DrR → LR (Nat × List DrR)
  | 0, i, _ => .bad i 180
  | f + 1, i, D => if isMk (tkA s i) mAt = true then (if isNm (tkA s (i + 1)) = true then (agL s (i + 2)).bind fun y => drF s f y.1 (D ++ [((tkA s (i + 1)).s, y.2)]) else .bad (i + 1) 180) else .ok (i, D)
def drL (s : LTok) (i : Nat) : LR (Nat × List DrR) := drF s (s.n + 1 - i) i []
theorem LR.bind_inv {α β : Type} {x : LR α} {f : α → LR β} {y : β} (h : x.bind f = .ok y) : ∃ a, x = .ok a ∧ f a = .ok y := by
  cases x with
  | ok a => exact ⟨a, rfl, h⟩
  | bad p e => cases h
theorem tyT_goes {s : LTok} {i rd : Nat} {nm : ByteArray} {ws : List Nat} {y : TyO} (h : tyT s i rd nm ws = .ok y) : i ≤ y.i ∧ (i ≤ s.n → y.i ≤ s.n) ∧ y.rd + ws.length = rd + y.ws.length ∧ (rd ≤ 8 → y.rd ≤ 8) ∧ y.nm = nm := by
  unfold tyT at h
  split at h
  · rename_i hm
    have := isMk_in hm
    split at h
    · cases h
    · rename_i h8
      cases h
      refine ⟨by show i ≤ i + 1; omega, fun _ => by show i + 1 ≤ s.n; omega, by show rd + 1 + _ = rd + (_ + 1); omega, fun _ => by show rd + 1 ≤ 8; omega, rfl⟩
  · cases h
    exact ⟨Nat.le_refl _, fun h => h, rfl, fun h => h, rfl⟩
theorem tyF_goes {s : LTok} : ∀ {f i rd : Nat} {y : TyO}, tyF s f i rd = .ok y → i < y.i ∧ y.i ≤ s.n ∧ y.rd = rd + y.ws.length ∧ (rd ≤ 8 → y.rd ≤ 8)
  | 0, _, _, _, h => by cases h
  | f + 1, i, rd, y, h => by
    unfold tyF at h
    split at h
    · split at h
      · cases h
      · rename_i h8
        obtain ⟨z, hz, h⟩ := LR.bind_inv h
        obtain ⟨z1, z2, z3, z4⟩ := tyF_goes hz
        split at h
        · rename_i hm
          have := isMk_in hm
          obtain ⟨t1, t2, t3, t4, _⟩ := tyT_goes h
          simp only [List.length_cons] at t3
          exact ⟨by omega, t2 (by omega), by omega, fun _ => t4 (z4 (by omega))⟩
        · cases h
    · split at h
      · rename_i hn
        have := isNm_in hn
        obtain ⟨t1, t2, t3, t4, _⟩ := tyT_goes h
        simp only [List.length_nil] at t3
        exact ⟨by omega, t2 (by omega), by omega, t4⟩
      · cases h
theorem agF_goes {s : LTok} : ∀ {f i : Nat} {ns : List ByteArray} {A : List AgR} {j : Nat} {B : List AgR}, agF s f i ns A = .ok (j, B) → i < j ∧ j ≤ s.n ∧ 0 < B.length ∧ B.length + i ≤ A.length + j
  | 0, _, _, _, _, _, h => by cases h
  | f + 1, i, ns, A, j, B, h => by
    unfold agF at h
    split at h
    · rename_i hc
      have := isMk_in hc.2
      cases h
      exact ⟨by omega, by omega, hc.1, by omega⟩
    · obtain ⟨nm, _, h⟩ := LR.bind_inv h
      split at h
      · obtain ⟨y, hy, h⟩ := LR.bind_inv h
        obtain ⟨y1, y2, _, _⟩ := ltL_ok (j := y.1) (N := y.2) hy
        obtain ⟨a1, a2, a3, a4⟩ := agF_goes h
        rw [List.length_append, List.length_singleton] at a4
        exact ⟨by omega, a2, a3, by omega⟩
      · cases h
theorem agL_goes {s : LTok} {i j : Nat} {B : List AgR} (h : agL s i = .ok (j, B)) : i ≤ j ∧ (i ≤ s.n → j ≤ s.n) ∧ B.length + i ≤ j := by
  unfold agL at h
  split at h
  · obtain ⟨a1, a2, a3, a4⟩ := agF_goes h
    simp only [List.length_nil] at a4
    exact ⟨by omega, fun _ => a2, by omega⟩
  · cases h
    exact ⟨Nat.le_refl _, fun h => h, by simp⟩
/-! ### In memory -/
/-- Pairs, cell by cell. -/
def rw2 (X : List (ByteArray × Value)) : List Value := X.flatMap fun x => [.string x.1, x.2]
theorem rw2_app (X : List (ByteArray × Value)) (n : ByteArray) (v : Value) : rw2 (X ++ [(n, v)]) = rw2 X ++ [.string n, v] := by
  unfold rw2
  rw [List.flatMap_append]
  simp
theorem rw2_at : ∀ (X : List (ByteArray × Value)) (k : Nat) (n : ByteArray) (v : Value), X[k]? = some (n, v) → (rw2 X)[k * 2]? = some (.string n) ∧ (rw2 X)[k * 2 + 1]? = some v
  | [], k, _, _, h => by simp at h
  | x :: X, 0, n, v, h => by
    simp at h
    subst h
    exact ⟨rfl, rfl⟩
  | x :: X, k + 1, n, v, h => by
    simp at h
    obtain ⟨a, b⟩ := rw2_at X k n v h
    have e : rw2 (x :: X) = .string x.1 :: x.2 :: rw2 X := by unfold rw2; rw [List.flatMap_cons]; rfl
    rw [e]
    refine ⟨?_, ?_⟩
    · rw [show (k + 1) * 2 = k * 2 + 1 + 1 by omega, List.getElem?_cons_succ, List.getElem?_cons_succ]; exact a
    · rw [show (k + 1) * 2 + 1 = k * 2 + 1 + 1 + 1 by omega, List.getElem?_cons_succ, List.getElem?_cons_succ]; exact b
/-- Rows above a place are kept, but those of a type. -/
def Mv (T : TypeId) (B : Nat) (w w' : World) : Prop := ∀ j cs e, B ≤ j → w.heap[j]? = some (.cells cs e (0, 0)) → e ≠ T → w'.heap[j]? = w.heap[j]?
theorem Mv.of_all {T : TypeId} {B : Nat} {w w' : World} (h : ∀ j, B ≤ j → j < w.heap.size → w'.heap[j]? = w.heap[j]?) : Mv T B w w' := fun j _ _ h1 h2 _ => h j h1 (Array.getElem?_eq_some_iff.1 h2).1
theorem Mv.trans {T : TypeId} {B : Nat} {w w1 w2 : World} (h : Mv T B w w1) (k : Mv T B w1 w2) : Mv T B w w2 := fun j cs e h1 h2 h3 => (k j cs e h1 ((h j cs e h1 h2 h3).trans h2) h3).trans (h j cs e h1 h2 h3)
theorem own_mv {T e : TypeId} {B n sz : Nat} {w w' : World} {v : Value} {x : List Value} (hne : e ≠ T) (h : w.ownsRow B e sz v n x) (k : Mv T B w w') : w'.ownsRow B e sz v n x := by
  refine ⟨h.1, ?_⟩
  rcases h.2 with ⟨hv, h0⟩ | ⟨g, cap, cur, hv, hB, hg, rest⟩
  · exact .inl ⟨hv, h0⟩
  · exact .inr ⟨g, cap, cur, hv, hB, (k g _ _ hB hg hne).trans hg, rest⟩
theorem own_grown {T : TypeId} {B n sz : Nat} {w w' : World} {v : Value} {x : List Value} (h : w.ownsRow B T sz v n x) (g : w.grownBy w' v.ownBlock) : Mv T B w w' := fun j _ _ _ h2 h3 => g.block j (Array.getElem?_eq_some_iff.1 h2).1 (fun e => by
  rcases h.2 with ⟨hv, h0⟩ | ⟨q, cap, cur, hv, hB, hg, rest⟩
  · rw [hv] at e; cases e
  · rw [hv] at e
    cases e
    rw [hg] at h2
    cases h2
    exact h3 rfl)
/-- Cells that lie above a place. -/
def CwP (B : Nat) (w : World) (v : Value) (M : List CR) : Prop := w.ownsRow B 46 5 v M.length (rw5 M)
/-- A row of pairs, with what they hold. -/
def PrP {α : Type} (T : TypeId) (O : Nat → World → Value → α → Prop) (B : Nat) (w : World) (v : Value) (A : List (ByteArray × α)) (X : List (ByteArray × Value)) : Prop := w.ownsRow B T 2 v A.length (rw2 X) ∧ X.length = A.length ∧ ∀ (k : Nat) (n : ByteArray) (a : α), A[k]? = some (n, a) → ∃ u : Value, X[k]? = some (n, u) ∧ O B w u a
theorem PrP.mv {α : Type} {T T' : TypeId} {O : Nat → World → Value → α → Prop} {B : Nat} {w w' : World} {v : Value} {A : List (ByteArray × α)} {X : List (ByteArray × Value)} (hne : T ≠ T') (hO : ∀ u a, O B w u a → O B w' u a) (h : PrP T O B w v A X) (k : Mv T' B w w') : PrP T O B w' v A X :=
  ⟨own_mv hne h.1 k, h.2.1, fun k n a e => (h.2.2 k n a e).imp fun u ⟨h1, h2⟩ => ⟨h1, hO u a h2⟩⟩
theorem PrP.push {α : Type} {T : TypeId} {O : Nat → World → Value → α → Prop} {B : Nat} {w w' : World} {v v' u : Value} {A : List (ByteArray × α)} {X : List (ByteArray × Value)} {n : ByteArray} {a : α} (hO : ∀ u a, O B w u a → O B w' u a) (h : PrP T O B w v A X) (r : w'.ownsRow B T 2 v' (A.length + 1) (rw2 X ++ [.string n, u])) (hu : O B w' u a) : PrP T O B w' v' (A ++ [(n, a)]) (X ++ [(n, u)]) := by
  refine ⟨by rw [List.length_append, List.length_singleton, rw2_app]; exact r, by rw [List.length_append, List.length_append, h.2.1]; rfl, fun k m b e => ?_⟩
  by_cases hk : k < A.length
  · rw [List.getElem?_append_left hk] at e
    obtain ⟨u', h1, h2⟩ := h.2.2 k m b e
    exact ⟨u', by rw [List.getElem?_append_left (by rw [h.2.1]; exact hk)]; exact h1, hO _ _ h2⟩
  · rw [List.getElem?_append_right (by omega)] at e
    have e0 : k - A.length = 0 := by
      cases q : k - A.length with
      | zero => rfl
      | succ j => rw [q] at e; simp at e
    rw [e0] at e
    simp at e
    obtain ⟨rfl, rfl⟩ := e
    refine ⟨u, ?_, hu⟩
    rw [List.getElem?_append_right (by rw [h.2.1]; omega), h.2.1, e0]
    rfl
theorem PrP.nil {α : Type} (T : TypeId) (O : Nat → World → Value → α → Prop) (B : Nat) (w : World) : PrP T O B w (.slice none 0 0) [] [] := ⟨World.ownsRow_nil _ _ _ _, rfl, fun _ _ _ e => by cases e⟩
/-- Arguments in memory, above a place. -/
def AgP (B : Nat) (w : World) (v : Value) (A : List AgR) : Prop := ∃ X, PrP 48 CwP B w v A X
/-- Directives in memory, above a place. -/
def DrP (B : Nat) (w : World) (v : Value) (D : List DrR) : Prop := ∃ X, PrP 44 AgP B w v D X
theorem CwP.mv {T : TypeId} {B : Nat} {w w' : World} {v : Value} {M : List CR} (hne : 46 ≠ T) (h : CwP B w v M) (k : Mv T B w w') : CwP B w' v M := own_mv hne h k
theorem AgP.mv {T : TypeId} {B : Nat} {w w' : World} {v : Value} {A : List AgR} (h1 : 46 ≠ T) (h2 : 48 ≠ T) (h : AgP B w v A) (k : Mv T B w w') : AgP B w' v A := h.imp fun _ h => h.mv h2 (fun _ _ h => CwP.mv h1 h k) k
theorem DrP.mv {T : TypeId} {B : Nat} {w w' : World} {v : Value} {D : List DrR} (h1 : 46 ≠ T) (h2 : 48 ≠ T) (h3 : 44 ≠ T) (h : DrP B w v D) (k : Mv T B w w') : DrP B w' v D := h.imp fun _ h => h.mv h3 (fun _ _ h => AgP.mv h1 h2 h k) k
end Go.Proofs.YtmkkckhfdafjnaaGreatDoor.Li
/- Layer 18: a literal, whatever stood in the reader's row. -/
namespace Go.Proofs.YtmkkckhfdafjnaaGreatDoor.Li
open Go.RowKit Go.Maps Rt
theorem own_raise {w : World} {B B' s n : Nat} {e : TypeId} {v : Value} {x : List Value} (h : w.ownsRow B e s v n x) (k : ∀ j, v.ownBlock = some j → B' ≤ j) : w.ownsRow B' e s v n x := by
  refine ⟨h.1, ?_⟩
  rcases h.2 with ⟨hv, h0⟩ | ⟨g, cap, cur, hv, hB, hg, rest⟩
  · exact .inl ⟨hv, h0⟩
  · exact .inr ⟨g, cap, cur, hv, k g (by rw [hv]; rfl), hg, rest⟩
/-- The reader's row is let go. -/
theorem reset_new {w : World} {p i op : Nat} {s : LTok} {v : Value} (h : Rt.RdB w p s i op v) : Li.RdB ((w.setCell ⟨p, 4, none⟩ (.slice none 0 0)).setCell ⟨p, 3, none⟩ (.int .i64 0)) p s i 0 (.slice none 0 0) [] ∧ KpB p w ((w.setCell ⟨p, 4, none⟩ (.slice none 0 0)).setCell ⟨p, 3, none⟩ (.int .i64 0)) := by
  have hk : ∀ k, k ≠ p → ((w.setCell ⟨p, 4, none⟩ (.slice none 0 0)).setCell ⟨p, 3, none⟩ (.int .i64 0)).heap[k]? = w.heap[k]? := fun k hk => by
    rw [Below.heap_setCell _ ⟨p, 3, none⟩ _ k hk, Below.heap_setCell _ ⟨p, 4, none⟩ _ k hk]
  refine ⟨⟨?_, h.tok.kept (fun k hlt => hk k (by omega)), World.ownsRow_nil _ _ _ _⟩, ⟨rfl, rfl, rfl, by simp, fun k _ h1 => hk k h1⟩⟩
  simp [World.setCell, Array.getElem?_modify, h.box]
/-- A literal is told, or an error thrown. -/
def LtN (p : Nat) (s : LTok) (w : World) (x : LR Out) (e : Ending) (w' : World) : Prop := match x with
  | .ok (j, M) => ∃ v', e = .returned v' ∧ CwP w.heap.size w' v' M ∧ Rt.RdB w' p s j 0 v' ∧ KpB p w w'
  | .bad a m => e = thr a m ∧ Below p w w'
set_option maxRecDepth 20000 in
set_option maxHeartbeats 4000000 in
theorem literal_new {s : LTok} {p i op : Nat} {v : Value} (w : World) (h : Rt.RdB w p s i op v) (l : LimP p w) (hi : i ≤ s.n) : Calls Tryz.prog 39 #[.pointer (some ⟨p, 0, none⟩)] w (LtN p s w (ltL s i)) := by
  have RS := Lib.hid (reset_new h)
  have c4 := h.c4
  have c3 := h.c3
  have z4 := h.z 4
  have z3 := h.z 3
  have HLT := Lib.hid h.lt
  have HV := Lib.hid (value_all s 17 (by decide) p i 0 (.slice none 0 0) [] ⟨#[]⟩ _ rfl RS.out.1 (lim_kp l RS.out.2 (Nat.le_of_lt h.lt)) hi (by decide))
  obtain ⟨X, hX⟩ : ∃ X, X = ltL s i := ⟨_, rfl⟩
  rw [← hX]
  unfold ltL at hX
  rw [← hX] at HV
  obtain ⟨W, hW⟩ : ∃ W, W = (w.setCell ⟨p, 4, none⟩ (.slice none 0 0)).setCell ⟨p, 3, none⟩ (.int .i64 0) := ⟨_, rfl⟩
  have HSZ : Hid (W.heap.size = w.heap.size) := Lib.hid (by rw [hW]; simp)
  rw [← hW] at RS HV
  have HW := Lib.hid hW
  clear hX h l hW
  go_enter Tryz.func39, Tryz.ntmps39
  go_wp2_with fail
  rw [← HW.out]
  clear c4 c3 z4 z3 HW
  cases X with
  | bad a m =>
    have HV1 : Hid (Calls Tryz.prog 64 #[.pointer (some ⟨p, 0, none⟩), .string ⟨#[]⟩] W fun e w' => e = thr a m ∧ Below p W w') := HV
    refine HV1.out.mono ?_
    rintro e w1 ⟨he, b1⟩
    unfold thr at he
    subst he
    (try go_wp2_with fail)
    simp only [bodyPost]
    exact ⟨trivial, rfl, (RS.out.2.below (Nat.le_of_lt HLT.out)).trans b1⟩
  | ok y =>
    obtain ⟨j, M⟩ := y
    have HV1 : Hid (Calls Tryz.prog 64 #[.pointer (some ⟨p, 0, none⟩), .string ⟨#[]⟩] W fun e w' => e = .returned (.tuple #[]) ∧ ∃ v', Li.RdB w' p s j 0 v' M ∧ Fr p (.slice none 0 0) v' W w') := HV
    refine HV1.out.mono ?_
    rintro e w1 ⟨rfl, v1, r1, f1⟩
    have c4 := r1.c4
    have R1 := Lib.hid (And.intro r1 f1)
    clear r1 f1
    go_wp2_with fail
    go_ret
    refine ⟨_, rfl, own_raise R1.out.1.row (fun j e => ?_), RdB.of R1.out.1, RS.out.2.trans (KpB.of_fr R1.out.2)⟩
    rcases R1.out.2.own j e with e | e
    · cases e
    · rw [← HSZ.out]; exact e
end Go.Proofs.YtmkkckhfdafjnaaGreatDoor.Li
