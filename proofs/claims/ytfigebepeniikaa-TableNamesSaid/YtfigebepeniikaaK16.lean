import Derived.Test.YtfigebepeniikaaK15
import Derived.Deep.RegionLaw
/- Layer 27: slices.Delete of one record. -/
namespace Go.Proofs.Ytfigebepeniikaa
open Go.RowKit Go.Maps Go.Shelf
section
variable {P : Program}
theorem run_clear_at (w : World) (t e ty : TypeId) (z : Value) (ht : P.underlying t = some (.slice e)) (hv : ∀ w, (zeroValue e).run P w = .ok z w) (g o n c : Nat) (cur zs : List Value) (te : TypeId) (hn : 0 < n) (hz : (Builtin.zeroCells z.cells n).toList = zs) (hg : w.heap[g]? = some (.cells cur.toArray te (0, 0))) (hfit : o + zs.length ≤ cur.length) (h1 : ∀ v ∈ zs, v.oneCell' = true) :
    (Builtin.clear_ #[t] ty #[.slice (some ⟨g, o, none⟩) n c]).run P w = .ok (.tuple #[]) (w.setRow g (cur.take o ++ zs ++ cur.drop (o + zs.length)).toArray) := by
  have hst := run_storeCells_at P g o te zs 0 cur.toArray w hg (by simpa using hfit) h1
  rw [Nat.add_zero] at hst
  obtain ⟨m, rfl⟩ : ∃ m, n = m + 1 := ⟨n - 1, by omega⟩
  simp [Builtin.clear_, run_underlying ht, hv, hz, hst]
theorem wpList_clear_r (w : World) {ops : Array Oper} {rest : List Oper} {o : Oper} {a : Act} {Q : Exit → Act → World → Prop} (hgd : o.guard = none) (s : Operand) (t : TypeId)
    (ho : o.op = .call { callee := .builtin .clear, args := #[s], argTypes := #[t] }) (u : Value) (hs : a.eval s = u) {v' : Value} {w' : World}
    (hr : (Builtin.clear_ #[t] o.type #[u]).run P w = .ok v' w') (h : wpList P ops Q rest (a.put o.dst v') w') : wpList P ops Q (o :: rest) a w := by
  refine wpList_plain hgd fun K hK => ?_
  unfold Oper.wp execOp
  simp only [ho, resolve, invoke, builtin, Sem.run_bind, Sem.run_pure, Result.andThen_ok, List.map_toArray, List.map_cons, List.map_nil, hs, hr]
  exact hK _ _ h
end
/-- A shorter row of one's own. -/
theorem own_short {w : World} {B e g n m cap : Nat} {xs : List Value} (h : w.ownsRow B e 2 (.slice (some ⟨g, 0, none⟩) n cap) n xs) (hm : m ≤ n) : w.ownsRow B e 2 (.slice (some ⟨g, 0, none⟩) m cap) m (xs.take (m * 2)) := by
  refine ⟨by rw [List.length_take, h.1]; omega, ?_⟩
  rcases h.2 with ⟨h, _⟩ | ⟨g', cap', cur, hq, hg, hgg, h1, h2, h3, h4⟩
  · cases h
  · simp only [Value.slice.injEq, Option.some.injEq, Addr.mk.injEq, and_true, true_and] at hq
    obtain ⟨rfl, rfl⟩ := hq
    refine .inr ⟨g, cap, cur, rfl, hg, hgg, by omega, h2, h3, ?_⟩
    rw [← h4, List.take_take, Nat.min_eq_left (by omega)]
theorem grown_setRow (w : World) (g : Nat) (cs : Array Value) : w.grownBy (w.setRow g cs) (some g) := by
  refine ⟨rfl, rfl, rfl, by simp [World.setRow], fun i _ hne => setRow_other w g i cs (fun e => hne (by rw [e]))⟩
theorem grown_two {w w1 w2 : World} {g : Nat} (h : w.grownBy w1 (some g)) (k : w1.grownBy w2 (some g)) : w.grownBy w2 (some g) :=
  ⟨k.os.trans h.os, k.tape.trans h.tape, k.output.trans h.output, Nat.le_trans h.size k.size, fun i hi hne => (k.block i (Nat.lt_of_lt_of_le hi h.size) hne).trans (h.block i hi hne)⟩
/-- What lies behind the row is cleared. -/
theorem own_clear {w : World} {B e g m cap : Nat} {xs zs : List Value} (h : w.ownsRow B e 2 (.slice (some ⟨g, 0, none⟩) m cap) m xs) (hz : zs.length = 2) (hc : m < cap) : ∃ cur : Array Value, w.heap[g]? = some (.cells cur e) ∧ m * 2 + zs.length ≤ cur.toList.length ∧ (w.setRow g (cur.toList.take (m * 2) ++ zs ++ cur.toList.drop (m * 2 + zs.length)).toArray).ownsRow B e 2 (.slice (some ⟨g, 0, none⟩) m cap) m xs := by
  rcases h.2 with ⟨h, _⟩ | ⟨g', cap', cur, hq, hg, hgg, h1, h2, h3, h4⟩
  · cases h
  · simp only [Value.slice.injEq, Option.some.injEq, Addr.mk.injEq, and_true, true_and] at hq
    obtain ⟨rfl, rfl⟩ := hq
    have hl : cur.toList.length = cap * 2 := by simpa using h3
    refine ⟨cur, hgg, by omega, h.1, .inr ⟨g, cap, _, rfl, hg, setRow_heap w _ cur _ _ (0, 0) hgg, h1, h2, ?_, ?_⟩⟩
    · simp
      omega
    · rw [List.append_assoc, List.take_append_of_le_length (by rw [List.length_take]; omega), List.take_take, Nat.min_self]
      exact h4
theorem zc_one : (Builtin.zeroCells (Value.agg #[.string ⟨#[]⟩, .slice none 0 0]).cells 1).toList = [Value.string ⟨#[]⟩, Value.slice none 0 0] := by
  simp only [Builtin.zeroCells, Value.cells]
  first
    | decide +kernel
    | (simp; done)
    | (apply List.ext_getElem
       · simp
       · intro i h1 h2
         have h3 : i < 2 := by simpa using h2
         rcases (show i = 0 ∨ i = 1 by omega) with rfl | rfl <;> simp)
def DelPost (B g n k : Nat) (xs : List Value) (w : World) (e : Ending) (w' : World) : Prop := e = .returned (.slice (some ⟨g, 0, none⟩) (n - 1) n) ∧ w'.ownsRow B 32 2 (.slice (some ⟨g, 0, none⟩) (n - 1) n) (n - 1) (xs.take (k * 2) ++ xs.drop ((k + 1) * 2)) ∧ w.grownBy w' (some g)
set_option maxRecDepth 100000 in
set_option maxHeartbeats 4000000 in
theorem del_any (B g m k : Nat) (jv : Int) (hjv : jv = ((k + 1 : Nat) : Int)) (xs : List Value) (w : World) (hown : w.ownsRow B 32 2 (.slice (some ⟨g, 0, none⟩) (m + 1) (m + 1)) (m + 1) xs) (hn : m ≤ 1000) (hk : k < m + 1) (h1x : ∀ u ∈ xs, u.oneCell' = true) : Calls Try.prog 25 #[.slice (some ⟨g, 0, none⟩) (m + 1) (m + 1), .int .i64 (k : Nat), .int .i64 jv] w (DelPost B g (m + 1) k xs w) := by
  subst hjv
  obtain ⟨i0, hI0, hz0, hz1, hz2⟩ := infoR
  have hxl : xs.length = (m + 1) * 2 := hown.1
  have hcs : ∀ j u, xs[j]? = some u → w.cell? ⟨g, j, none⟩ = some u := fun j u hj => by
    rw [hown.cellAt j (by have := (List.getElem?_eq_some_iff.1 hj).1; omega)]; exact hj
  have HPD : Hid (w.drew.ownsRow B 32 2 (.slice (some ⟨g, 0, none⟩) k (m + 1)) k (xs.take (k * 2))) := Lib.hid (own_short hown (Nat.le_of_lt hk))
  have HLN : Hid ((xs.drop ((k + 1) * 2)).length = (m - k) * 2) := Lib.hid (by rw [List.length_drop, hxl]; omega)
  have HON : Hid (∀ u ∈ xs.drop ((k + 1) * 2), u.oneCell' = true) := Lib.hid (fun u hu => h1x u (List.mem_of_mem_drop hu))
  obtain ⟨A, hA, hsrc⟩ : ∃ A : Addr, (if m = k then (some ⟨g, 0, none⟩ : Option Addr) else some ⟨g, (k + 1) * 2, none⟩) = some A ∧ Hid (∀ t u, (xs.drop ((k + 1) * 2))[t]? = some u → w.drew.cell? (A.add t) = some u) := by
    by_cases h : m = k
    · refine ⟨⟨g, 0, none⟩, by simp [h], Lib.hid (fun t u hu => ?_)⟩
      rw [List.getElem?_drop] at hu
      have := (List.getElem?_eq_some_iff.1 hu).1
      omega
    · refine ⟨⟨g, (k + 1) * 2, none⟩, by simp [h], Lib.hid (fun t u hu => ?_)⟩
      rw [List.getElem?_drop] at hu
      rw [Addr.add_lit]
      exact hcs _ _ hu
  have hic : k ≤ m + 1 := Nat.le_of_lt hk
  have hjc : k + 1 ≤ m + 1 := hk
  have hji : (k : Int) + 1 ≤ (m : Int) + 1 := by omega
  have hj0 : (0 : Int) ≤ (k : Int) + 1 := by omega
  have hki : (k : Int) ≤ (m : Int) + 1 := by omega
  have hmi : (m : Int) ≤ (m : Int) + 1 := by omega
  have e : k + (m - k) = m := by omega
  have hRV : ∀ w, (zeroValue 32).run Try.prog w = .ok (.agg #[.string ⟨#[]⟩, .slice none 0 0]) w := fun w => by unfold zeroValue typeInfo; simp [hI0, hz0]
  clear hown hcs hxl h1x
  go_enter Try.func25, Try.ntmps25
  go_wp2_with fail
  go_region_law (refine step_fits rfl (.tmp 22) (.tmp 25) 23 rfl B 32 i0 2 Try.underlying23 hI0 hz1 g k (m + 1) (xs.take (k * 2)) (by simp [Act.eval, Act.put]) HPD.out A (m - k) (m - k) (xs.drop ((k + 1) * 2)) (by simp [Act.eval, Act.put]) HLN.out hsrc.out HON.out (by omega) ?_; intro w6 ho6 hg6)
  rw [e] at ho6
  have HG : Hid (w.grownBy w6 (some g)) := Lib.hid ⟨hg6.os, hg6.tape, hg6.output, hg6.size, hg6.block⟩
  obtain ⟨zs, hzs⟩ : ∃ zs : List Value, zs = [Value.string ⟨#[]⟩, Value.slice none 0 0] := ⟨_, rfl⟩
  obtain ⟨cur, HC, HF, HO⟩ := own_clear (zs := zs) ho6 (by rw [hzs]; rfl) (Nat.lt_succ_self m)
  obtain ⟨W7, hW7⟩ : ∃ W, W = w6.setRow g (cur.toList.take (m * 2) ++ zs ++ cur.toList.drop (m * 2 + zs.length)).toArray := ⟨_, rfl⟩
  have hcl : ∀ ty, (Builtin.clear_ #[23] ty #[.slice (some ⟨g, m * 2, none⟩) 1 1]).run Try.prog w6 = .ok (.tuple #[]) W7 := fun ty => by
    rw [hW7]
    exact run_clear_at w6 23 32 ty (.agg #[.string ⟨#[]⟩, .slice none 0 0]) Try.underlying23 hRV g (m * 2) 1 1 cur.toList zs 32 (by decide) (zc_one.trans hzs.symm) HC HF (by intro u hu; rw [hzs] at hu; simp at hu; rcases hu with rfl | rfl <;> rfl)
  have HO7 : Hid (W7.ownsRow B 32 2 (.slice (some ⟨g, 0, none⟩) m (m + 1)) m (xs.take (k * 2) ++ xs.drop ((k + 1) * 2))) := Lib.hid (by rw [hW7]; exact HO)
  have HG7 : Hid (w.grownBy W7 (some g)) := Lib.hid (by rw [hW7]; exact grown_two HG.out (grown_setRow _ _ _))
  clear hW7 HC HF HO HG hRV hg6 ho6 hzs HPD HLN HON hsrc hA
  go_wp2_with fail
  go_ret
  exact ⟨rfl, HO7.out, HG7.out⟩
end Go.Proofs.Ytfigebepeniikaa
/- Layer 27: Drop: its rows. -/
namespace Go.Proofs.Ytfigebepeniikaa
open Go.RowKit Go.Maps Go.Shelf
theorem drop_at {L : List RC} {s : ByteArray} {k : Nat} (hc : Ord.chE (idsR L) = 0) (h : Ord.At (idsR L) s k true) : L.filter (fun w => decide (w.id ≠ s)) = L.take k ++ L.drop (k + 1) := by
  obtain ⟨_, _, h3, _⟩ := h
  obtain ⟨h4, h5⟩ := h3 rfl
  rw [idsR_len] at h4
  have e : L = L.take k ++ L[k] :: L.drop (k + 1) := by
    rw [← List.drop_eq_getElem_cons h4, List.take_append_drop]
  rw [idsR_nth L k h4] at h5
  have hne : ∀ j (hj : j < L.length), j ≠ k → (L[j]).id ≠ s := fun j hj hjk e2 => hjk (Ord.rises_inj (L := idsR L) hc (by rw [idsR_len]; exact hj) (by rw [idsR_len]; exact h4) (by rw [idsR_nth L j hj, idsR_nth L k h4, e2, h5]))
  have f1 : (L.take k).filter (fun w => decide (w.id ≠ s)) = L.take k := by
    rw [List.filter_eq_self]
    intro w hw
    obtain ⟨j, hj, rfl⟩ := List.getElem_of_mem hw
    rw [List.length_take] at hj
    rw [List.getElem_take]
    exact decide_eq_true (hne j (by omega) (by omega))
  have f2 : (L.drop (k + 1)).filter (fun w => decide (w.id ≠ s)) = L.drop (k + 1) := by
    rw [List.filter_eq_self]
    intro w hw
    obtain ⟨j, hj, rfl⟩ := List.getElem_of_mem hw
    rw [List.length_drop] at hj
    rw [List.getElem_drop]
    exact decide_eq_true (hne _ (by omega) (by omega))
  have hk : decide ((L[k]).id ≠ s) = false := decide_eq_false (fun h => h h5)
  calc L.filter (fun w => decide (w.id ≠ s)) = (L.take k ++ L[k] :: L.drop (k + 1)).filter (fun w => decide (w.id ≠ s)) := by rw [← e]
    _ = L.take k ++ L.drop (k + 1) := by rw [List.filter_append, List.filter_cons, hk, f1, f2]; rfl
theorem dropT_bad {T : TM} {s : ByteArray} (h : tabOk T = false) : dropT T s = (zT, 8) := by unfold dropT; rw [if_pos h]
theorem dropT_no {T : TM} {s : ByteArray} (h : tabOk T = true) (k : ¬ s ∈ idsR T.rows) : dropT T s = (zT, 270) := by unfold dropT; rw [if_neg (by rw [h]; decide), if_pos k]
theorem dropT_mk {T : TM} {s : ByteArray} {k : Nat} (h : tabOk T = true) (ha : Ord.At (idsR T.rows) s k true) : dropT T s = ({ T with rows := T.rows.take k ++ T.rows.drop (k + 1) }, 0) := by
  have hm : s ∈ idsR T.rows := by
    have := at_mem ha
    simpa using this.symm
  unfold dropT
  rw [if_neg (by rw [h]; decide), if_neg (by simpa using hm), drop_at (tabOk_iff.1 h).up ha]
theorem zip_del (R : List RC) (qs : List Nat) (k : Nat) (hl : qs.length = R.length) : (R.take k ++ R.drop (k + 1)).zip (qs.take k ++ qs.drop (k + 1)) = (R.zip qs).take k ++ (R.zip qs).drop (k + 1) := by
  rw [List.zip_append (by simp [hl]), (zip_td R qs k).1, (zip_td R qs (k + 1)).2]
theorem del_rows {B : Nat} {w w' : World} {R : List RC} {qs : List Nat} {g k : Nat} {v : Value} (h : OwnR B w (.slice (some ⟨g, 0, none⟩) R.length R.length) R qs) (hl : qs.length = R.length) (hk : k < R.length)
    (ho : w'.ownsRow B 32 2 v (R.length - 1) ((rwR R qs).take (k * 2) ++ (rwR R qs).drop ((k + 1) * 2))) (hg : w.grownBy w' (some g)) :
    OwnR B w' v (R.take k ++ R.drop (k + 1)) (qs.take k ++ qs.drop (k + 1)) ∧ (qs.take k ++ qs.drop (k + 1)).length = (R.take k ++ R.drop (k + 1)).length := by
  have hll : (qs.take k ++ qs.drop (k + 1)).length = (R.take k ++ R.drop (k + 1)).length := by simp [hl]
  have hlen : (R.take k ++ R.drop (k + 1)).length = R.length - 1 := by simp; omega
  obtain ⟨_, cur, hc⟩ := h.cur
  refine ⟨ownR_mk hll ?_ fun p hp => ?_, hll⟩
  · rw [zip_del R qs k hl, hlen, List.flatMap_append]
    rw [rwR_zip R qs hl] at ho
    obtain ⟨e1, _⟩ := fm_take rc2 (fun _ => rfl) (R.zip qs) k
    obtain ⟨_, e2⟩ := fm_take rc2 (fun _ => rfl) (R.zip qs) (k + 1)
    rw [e1, e2] at ho
    exact ho
  · rw [zip_del R qs k hl] at hp
    rcases List.mem_append.1 hp with hp | hp
    · obtain ⟨a, b⟩ := ownR_zip h hl p (List.mem_of_mem_take hp)
      exact ⟨a, b.grown hc hg⟩
    · obtain ⟨a, b⟩ := ownR_zip h hl p (List.mem_of_mem_drop hp)
      exact ⟨a, b.grown hc hg⟩
/-- What lies in boxes all the while. -/
structure PD (w W : World) (y0 y1 y2 y3 : Value) : Prop where
  bl : Below w.heap.size w W
  b1 : Bx4 W w.heap.size 25 y0 y1 y2 y3
  b3 : Bx4 W (w.heap.size + 1) 25 (.string ⟨#[]⟩) (.int .i64 0) (.slice none 0 0) (.slice none 0 0)
theorem PD.up {w W W' : World} {y0 y1 y2 y3 : Value} (h : PD w W y0 y1 y2 y3) (k : Below W.heap.size W W') : PD w W' y0 y1 y2 y3 := ⟨h.bl.trans (k.mono h.bl.size), h.b1.up k, h.b3.up k⟩
theorem pd_new (w : World) (y0 y1 y2 y3 : Value) : PD w ((w.alloc (.cells #[y0, y1, y2, y3] 25)).alloc (.cells #[.string ⟨#[]⟩, .int .i64 0, .slice none 0 0, .slice none 0 0] 25)) y0 y1 y2 y3 := by
  refine ⟨((Below.refl _ _).alloc (Nat.le_refl _) _).alloc (by simp) _, (bx4_new w _ _ _ _ _).up ((Below.refl _ _).alloc (Nat.le_refl _) _), ?_⟩
  have h := bx4_new (w.alloc (.cells #[y0, y1, y2, y3] 25)) 25 (.string ⟨#[]⟩) (.int .i64 0) (.slice none 0 0) (.slice none 0 0)
  simpa using h
theorem PD.zero {w W : World} {y0 y1 y2 y3 : Value} (h : PD w W y0 y1 y2 y3) (err : Int) : TabPost w zT err (.returned (.tuple #[.agg #[.string ⟨#[]⟩, .int .i64 0, .slice none 0 0, .slice none 0 0], .int .i64 err])) (W4 W (w.heap.size + 1) (.string ⟨#[]⟩) (.int .i64 0) (.slice none 0 0) (.slice none 0 0)) :=
  ⟨_, rfl, ownV_z _ _, w4_below h.bl (by omega) _ _ _ _⟩
end Go.Proofs.Ytfigebepeniikaa
/- Layer 27: Drop, walked. -/
namespace Go.Proofs.Ytfigebepeniikaa
open Go.RowKit Go.Maps Go.Shelf
set_option maxRecDepth 20000 in
set_option maxHeartbeats 4000000 in
theorem tDrop_any (B : Nat) (T : TM) (a1 a2 : Option Addr) (c1 c2 : Nat) (s : ByteArray) (w : World) (hv : TVs B w T a1 c1 a2 c2) (hs : SmT T) : Calls Try.prog 11 #[tv T a1 c1 a2 c2, .string s] w (TabPost w (dropT T s).1 (dropT T s).2) := by
  obtain ⟨Q, hQ⟩ : ∃ Q, Q = TabPost w (dropT T s).1 (dropT T s).2 := ⟨_, rfl⟩
  have HCK := Lib.hid (fun W (k : Below w.heap.size w W) => tCheck_any B T a1 a2 c1 c2 W (hv.below k) hs)
  have HOP := Lib.hid (fun (h : tabOk T = true) W (k : Below w.heap.size w W) => open_any B T a1 a2 c1 c2 s W (hv.below k) hs (tabOk_iff.1 h).up)
  have HDL : Hid (∀ (k m : Nat) (qs : List Nat) W g (jv : Int), T.rows.length = m + 1 → jv = ((k + 1 : Nat) : Int) → k < m + 1 → OwnR w.heap.size W (.slice (some ⟨g, 0, none⟩) T.rows.length T.rows.length) T.rows qs → qs.length = T.rows.length → Calls Try.prog 25 #[.slice (some ⟨g, 0, none⟩) T.rows.length T.rows.length, .int .i64 (k : Nat), .int .i64 jv] W (fun e W' => e = .returned (.slice (some ⟨g, 0, none⟩) m T.rows.length) ∧ (OwnR w.heap.size W' (.slice (some ⟨g, 0, none⟩) m T.rows.length) (T.rows.take k ++ T.rows.drop (k + 1)) (qs.take k ++ qs.drop (k + 1)) ∧ (qs.take k ++ qs.drop (k + 1)).length = (T.rows.take k ++ T.rows.drop (k + 1)).length) ∧ W.grownBy W' (some g))) := Lib.hid (fun k m qs W g jv hm hj hk ho hl => by
    have hrow : W.ownsRow w.heap.size 32 2 (.slice (some ⟨g, 0, none⟩) (m + 1) (m + 1)) (m + 1) (rwR T.rows qs) := by
      have := ho.row
      rwa [hl, hm] at this
    have h1 : ∀ u ∈ rwR T.rows qs, u.oneCell' = true := by rw [rwR_zip _ _ hl]; exact fm_one _
    have h := del_any w.heap.size g m k jv hj (rwR T.rows qs) W hrow (by have := hs.rows; omega) hk h1
    rw [hm]
    refine h.mono ?_
    rintro e W' ⟨rfl, h2, h3⟩
    have hd := del_rows (k := k) (v := .slice (some ⟨g, 0, none⟩) m (m + 1)) ho hl (by omega) (by rw [hm]; exact h2) h3
    exact ⟨rfl, hd, h3⟩)
  have HE8 : Hid (tabOk T = false → ∀ W y0 y1 y2 y3, PD w W y0 y1 y2 y3 → Q (.returned (.tuple #[.agg #[.string ⟨#[]⟩, .int .i64 0, .slice none 0 0, .slice none 0 0], .int .i64 8])) (W4 W (w.heap.size + 1) (.string ⟨#[]⟩) (.int .i64 0) (.slice none 0 0) (.slice none 0 0))) := Lib.hid (fun h W y0 y1 y2 y3 hp => by rw [hQ, dropT_bad h]; exact hp.zero 8)
  have HE1 : Hid (tabOk T = true → ¬ s ∈ idsR T.rows → ∀ W y0 y1 y2 y3, PD w W y0 y1 y2 y3 → Q (.returned (.tuple #[.agg #[.string ⟨#[]⟩, .int .i64 0, .slice none 0 0, .slice none 0 0], .int .i64 270])) (W4 W (w.heap.size + 1) (.string ⟨#[]⟩) (.int .i64 0) (.slice none 0 0) (.slice none 0 0))) := Lib.hid (fun h1 h W y0 y1 y2 y3 hp => by rw [hQ, dropT_no h1 h]; exact hp.zero 270)
  have HE0 : Hid (tabOk T = true → ∀ k, Ord.At (idsR T.rows) s k true → ∀ W b1 k1 v qs, Below w.heap.size w W → W.ownsRow w.heap.size 9 1 (.slice b1 T.uq.length k1) T.uq.length (T.uq.map Value.string) → OwnR w.heap.size W v (T.rows.take k ++ T.rows.drop (k + 1)) qs ∧ qs.length = (T.rows.take k ++ T.rows.drop (k + 1)).length → Q (.returned (.tuple #[.agg #[.string T.name, .int .i64 T.most, .slice b1 T.uq.length k1, v], .int .i64 0])) W) := Lib.hid (fun h1 k hat W b1 k1 v qs hb hu ho => by
    rw [hQ, dropT_mk h1 hat]
    exact ⟨_, rfl, ⟨b1, k1, v, qs, rfl, hu, ho.1, ho.2⟩, hb⟩)
  have HAT : Hid (∀ k is, Ord.At (idsR T.rows) s k is → (is = true → k < T.rows.length) ∧ (is = false → ¬ s ∈ idsR T.rows)) := Lib.hid (fun k is h => by
    refine ⟨fun h' => ?_, fun h' => ?_⟩
    · have := (h.2.2.1 h').1
      rwa [idsR_len] at this
    · have e := at_mem h
      rw [h'] at e
      simpa using e.symm)
  have HOT : Hid (∀ B2 W b1 k1 g qs, OwnT B2 W T b1 k1 g qs → OwnR B2 W (.slice (some ⟨g, 0, none⟩) T.rows.length T.rows.length) T.rows qs ∧ qs.length = T.rows.length ∧ W.ownsRow B2 9 1 (.slice b1 T.uq.length k1) T.uq.length (T.uq.map Value.string)) := Lib.hid (fun B2 W b1 k1 g qs h => ⟨h.r, h.l, h.u⟩)
  have HMX : Hid (T.rows.length ≤ 1000) := Lib.hid hs.rows
  rw [← hQ]
  obtain ⟨X, hX⟩ : ∃ X, X = (w.alloc (.cells #[.string T.name, .int .i64 T.most, .slice a1 T.uq.length c1, .slice a2 T.rows.length c2] 25)).alloc (.cells #[.string ⟨#[]⟩, .int .i64 0, .slice none 0 0, .slice none 0 0] 25) := ⟨_, rfl⟩
  have PX : Hid (PD w X (.string T.name) (.int .i64 T.most) (.slice a1 T.uq.length c1) (.slice a2 T.rows.length c2)) := Lib.hid (by rw [hX]; exact pd_new _ _ _ _ _)
  unfold tv at *
  unfold OpPost at HOP
  clear hv hs hQ
  generalize T.name = nm at *
  generalize T.most = m at *
  generalize T.uq.length = nu at *
  generalize T.rows.length = n at *
  generalize tabOk T = tk at *
  go_enter Try.func11, Try.ntmps11
  have y0 := PX.out.b1.c0
  have y1 := PX.out.b1.c1
  have y2 := PX.out.b1.c2
  have y3 := PX.out.b1.c3
  go_wp2_with fail
  rw [← hX]
  clear hX
  refine (HCK.out X PX.out.bl).mono ?_
  rintro e w1 ⟨rfl, b1⟩
  have P1 := Lib.hid (PX.out.up b1)
  clear b1 PX y0 y1 y2 y3
  cases tk with
  | false =>
    have z0 := P1.out.b3.c0
    have z1 := P1.out.b3.c1
    have z2 := P1.out.b3.c2
    have z3 := P1.out.b3.c3
    have f0 := P1.out.b3.fz 0
    have f1 := P1.out.b3.fz 1
    have f2 := P1.out.b3.fz 2
    have f3 := P1.out.b3.fz 3
    have HE := Lib.hid (HE8.out (by first | rfl | trivial))
    go_wp2_with fail
    exact ret_tt Try.results11 rfl rfl (P1.out.b3.set4 _ _ _ _) (HE.out _ _ _ _ _ P1.out)
  | true =>
    have y0 := P1.out.b1.c0
    have y1 := P1.out.b1.c1
    have y2 := P1.out.b1.c2
    have y3 := P1.out.b1.c3
    go_wp2_with fail
    refine (HOP.out (by first | rfl | trivial) w1 P1.out.bl).mono ?_
    rintro e w3 ⟨p, k, is, b1, k1, g, qs, rfl, hat, hp, hbx, hot, b3⟩
    have P3 := Lib.hid (P1.out.up b3)
    have HP : Hid (w.heap.size + 1 < p) := Lib.hid (Nat.lt_of_lt_of_le P1.out.b3.lt hp)
    have HT3 := Lib.hid (hot.mono P1.out.bl.size)
    have U3 := Lib.hid hbx
    have HA := Lib.hid hat
    have HK := Lib.hid (HAT.out k is hat)
    clear y0 y1 y2 y3 b3 hp hbx hot hat P1 HOP
    cases is with
    | false =>
      have z0 := P3.out.b3.c0
      have z1 := P3.out.b3.c1
      have z2 := P3.out.b3.c2
      have z3 := P3.out.b3.c3
      have f0 := P3.out.b3.fz 0
      have f1 := P3.out.b3.fz 1
      have f2 := P3.out.b3.fz 2
      have f3 := P3.out.b3.fz 3
      have HE := Lib.hid (HE1.out (by first | rfl | trivial) (HK.out.2 (by first | rfl | trivial)))
      go_wp2_with fail
      exact ret_tt Try.results11 rfl rfl (P3.out.b3.set4 _ _ _ _) (HE.out _ _ _ _ _ P3.out)
    | true =>
      have HKN := Lib.hid (HK.out.1 (by first | rfl | trivial))
      have HE := Lib.hid (HE0.out (by first | rfl | trivial) k HA.out)
      have x3 := U3.out.c3
      have T3 := Lib.hid (HOT.out _ _ _ _ _ _ HT3.out)
      have hkm : (k : Int) + 1 ≤ 1000 := by have := HKN.out; have := HMX.out; omega
      obtain ⟨j, hj⟩ : ∃ j, n = j + 1 := ⟨n - 1, by have := HKN.out; omega⟩
      replace hj := Lib.hid hj
      have hw : wrap64 ((k : Int) + 1) = ((k + 1 : Nat) : Int) := by
        unfold wrap64
        omega
      have HD := Lib.hid (HDL.out k j qs w3 g _ hj.out hw (by have := HKN.out; have := hj.out; omega) T3.out.1 T3.out.2.1)
      clear hw HT3 HDL HAT HK HA HOT hkm
      go_wp2_with fail
      refine HD.out.mono ?_
      rintro e w4 ⟨rfl, hr, hg⟩
      have C := Lib.hid T3.out.1.cur
      have HR := Lib.hid hr
      have HG := Lib.hid hg
      have U4 : Hid (Bx4 w4 p 49 (.string nm) (.int .i64 m) (.slice b1 nu k1) (.slice (some ⟨g, 0, none⟩) n n)) := Lib.hid (by obtain ⟨_, cur, hc⟩ := C.out; exact U3.out.grown hc (by decide) hg)
      have P4 : Hid (Bx4 w4 (w.heap.size + 1) 25 (.string ⟨#[]⟩) (.int .i64 0) (.slice none 0 0) (.slice none 0 0)) := Lib.hid (by obtain ⟨_, cur, hc⟩ := C.out; exact P3.out.b3.grown hc (by decide) hg)
      have y8 := U4.out.c3
      have f8 := U4.out.fz 3
      have UV := Lib.hid (U4.out.set3 (.slice (some ⟨g, 0, none⟩) j n))
      have PV := Lib.hid (P4.out.other (k := 3) (Nat.ne_of_gt HP.out) (.slice (some ⟨g, 0, none⟩) j n))
      have OV : Hid ((w4.setCell ⟨p, 3, none⟩ (.slice (some ⟨g, 0, none⟩) j n)).ownsRow w.heap.size 9 1 (.slice b1 nu k1) nu (T.uq.map Value.string)) := Lib.hid (by
        obtain ⟨_, cur, hc⟩ := C.out
        exact own_setB (own_other T3.out.2.2 hc (by decide) HG.out) U4.out (by decide))
      have RV : Hid (OwnR w.heap.size (w4.setCell ⟨p, 3, none⟩ (.slice (some ⟨g, 0, none⟩) j n)) (.slice (some ⟨g, 0, none⟩) j n) (T.rows.take k ++ T.rows.drop (k + 1)) (qs.take k ++ qs.drop (k + 1)) ∧ (qs.take k ++ qs.drop (k + 1)).length = (T.rows.take k ++ T.rows.drop (k + 1)).length) := Lib.hid ⟨HR.out.1.setB U4.out (by decide) (by decide), HR.out.2⟩
      have BV : Hid (Below w.heap.size w (w4.setCell ⟨p, 3, none⟩ (.slice (some ⟨g, 0, none⟩) j n))) := Lib.hid (by
        obtain ⟨hg0, _⟩ := C.out
        exact (P3.out.bl.grown HG.out P3.out.bl.size (fun q hq => by cases hq; exact hg0)).setCell (by have := HP.out; show w.heap.size ≤ p; omega) _)
      have x0 := UV.out.c0
      have x1 := UV.out.c1
      have x2 := UV.out.c2
      have x4 := UV.out.c3
      have z0 := PV.out.c0
      have z1 := PV.out.c1
      have z2 := PV.out.c2
      have z3 := PV.out.c3
      have f0 := PV.out.fz 0
      have f1 := PV.out.fz 1
      have f2 := PV.out.fz 2
      have f3 := PV.out.fz 3
      have HF := Lib.hid (HE.out (W4 (w4.setCell ⟨p, 3, none⟩ (.slice (some ⟨g, 0, none⟩) j n)) (w.heap.size + 1) (.string nm) (.int .i64 m) (.slice b1 nu k1) (.slice (some ⟨g, 0, none⟩) j n)) b1 k1 (.slice (some ⟨g, 0, none⟩) j n) (qs.take k ++ qs.drop (k + 1)) (w4_below BV.out (by omega) _ _ _ _) (own_setB4 OV.out PV.out (by decide) _ _ _ _) ⟨RV.out.1.setB4 PV.out (by decide) (by decide) _ _ _ _, RV.out.2⟩)
      clear hr hg x3 P3 U3 T3 HE HD C
      go_wp2_with fail
      exact ret_tt Try.results11 rfl rfl (PV.out.set4 _ _ _ _) HF.out
end Go.Proofs.Ytfigebepeniikaa
/- Layer 27: Get and Drop, and what they tell, small with what came in. -/
namespace Go.Proofs.Ytfigebepeniikaa
open Go.RowKit Go.Maps
def zC : RC := ⟨⟨#[]⟩, []⟩
def GT (w : World) (o : Option RC) (e : Ending) (w' : World) : Prop := ∃ ad cp, e = .returned (.tuple #[.agg #[.string (o.getD zC).id, .slice ad (o.getD zC).d.length cp], .bool o.isSome]) ∧ DV 0 w' ad cp (o.getD zC).d ∧ Below w.heap.size w w'
theorem getT_mem {T : TM} {s : ByteArray} {r : RC} (h : getT T s = some r) : r ∈ T.rows := by
  unfold getT at h
  split at h
  · exact List.mem_of_find?_eq_some h
  · cases h
theorem get_len {T : TM} {s : ByteArray} {k : Nat} (hs : SmN k T) : ((getT T s).getD zC).d.length ≤ maxLen := by
  cases h : getT T s with
  | none => exact Nat.zero_le _
  | some r => exact hs.len r (getT_mem h)
theorem get_gt {k B : Nat} {T : TM} (hs : SmN k T) (hk : k ≤ 1000) : ∀ (s : ByteArray) (W : World) (a1 a2 : Option Addr) (c1 c2 : Nat), TVs B W T a1 c1 a2 c2 → Calls Try.prog 16 #[.agg #[.string T.name, .int .i64 T.most, .slice a1 T.uq.length c1, .slice a2 T.rows.length c2], .string s] W (GT W (getT T s)) := fun s W a1 a2 c1 c2 hv => by
  refine (tGet_any B T a1 a2 c1 c2 s W hv (hs.smT hk)).mono ?_
  rintro e w' ⟨h, hb⟩
  have hl := get_len (s := s) hs
  cases ho : getT T s with
  | none =>
    rw [ho] at h
    exact ⟨none, 0, h, ⟨fun i hi => absurd hi (Nat.not_lt_zero i), Nat.le_refl _, Nat.zero_le _, fun _ => ⟨rfl, rfl⟩, fun _ _ e => (by cases e)⟩, hb⟩
  | some r =>
    rw [ho] at h hl
    obtain ⟨q, rfl, hq, hd⟩ := h
    exact ⟨some ⟨q, 0, none⟩, r.d.length, rfl, (hd.dv hq hl).mono (Nat.zero_le _), hb⟩
theorem drop_sub {T : TM} {s : ByteArray} : ∀ r ∈ (dropT T s).1.rows, r ∈ T.rows := by
  unfold dropT
  split
  · intro r hr; cases hr
  · split
    · intro r hr; cases hr
    · intro r hr; exact (List.mem_filter.1 hr).1
theorem drop_pt {k B : Nat} {T X : TM} {s : ByteArray} {e : Int} (hX : dropT T s = (X, e)) (hk : k ≤ 1000) (hs : SmN k T) : ∀ (W : World) (a1 a2 : Option Addr) (c1 c2 : Nat), TVs B W T a1 c1 a2 c2 → Calls Try.prog 11 #[.agg #[.string T.name, .int .i64 T.most, .slice a1 T.uq.length c1, .slice a2 T.rows.length c2], .string s] W (PT W X e) := fun W a1 a2 c1 c2 hv => by
  have hl : ∀ r ∈ X.rows, r.d.length ≤ maxLen := fun r hr => hs.len r (drop_sub (s := s) r (by rw [hX]; exact hr))
  have h := tDrop_any B T a1 a2 c1 c2 s W hv (hs.smT hk)
  rw [hX] at h
  refine h.mono ?_
  rintro e w' ⟨val, rfl, ho, hb⟩
  obtain ⟨e1, f1, e2, f2, rfl, h⟩ := ho.tv hl
  exact ⟨e1, f1, e2, f2, rfl, h, hb⟩
end Go.Proofs.Ytfigebepeniikaa
/- Layer 27: TableBack, walked. -/
namespace Go.Proofs.Ytfigebepeniikaa
open Go.RowKit Go.Maps
/-- What lies in the law's boxes. -/
structure PB (w W : World) (y0 y1 y2 y3 z0 z1 : Value) : Prop where
  bl : Below w.heap.size w W
  b1 : Bx4 W w.heap.size 25 y0 y1 y2 y3
  b2 : Bx2 W (w.heap.size + 1) z0 z1
theorem PB.up {w W W' : World} {y0 y1 y2 y3 z0 z1 : Value} (h : PB w W y0 y1 y2 y3 z0 z1) (k : Below W.heap.size W W') : PB w W' y0 y1 y2 y3 z0 z1 := ⟨h.bl.trans (k.mono h.bl.size), h.b1.up k, h.b2.up k⟩
theorem pb_new (w : World) (y0 y1 y2 y3 z0 z1 : Value) : PB w ((w.alloc (.cells #[y0, y1, y2, y3] 25)).alloc (.cells #[z0, z1] 32)) y0 y1 y2 y3 z0 z1 :=
  ⟨((Below.refl _ _).alloc (Nat.le_refl _) _).alloc (by simp) _, al_old _ _ (al_at _ _ rfl), al_at _ _ (by simp)⟩
theorem back_nums (T : TM) (a : RC) (s : ByteArray) (X D V : TM) (e d h : Int) (hX : putT T a = (X, e)) (hD : dropT X a.id = (D, d)) (hV : putT X a = (V, h)) : (e = 0 → tabOk X = true ∧ (getT X a.id).getD zC = a ∧ (getT X a.id).isSome = true ∧ d = 0 ∧ D = T ∧ h = 271 ∧ (s ≠ a.id → getT X s = getT T s)) ∧ (e ≠ 0 → X.rows.length = 0 ∧ X.most = 0) := by
  constructor
  · rintro rfl
    obtain ⟨h1, h2, h3, h4, h5⟩ := back_law hX
    rw [hD, Prod.mk.injEq] at h3
    rw [hV] at h4
    exact ⟨h1, by rw [h2]; rfl, by rw [h2]; rfl, h3.2, h3.1, h4, h5 s⟩
  · intro he
    have := put_err T a (by rw [hX]; exact he)
    rw [hX] at this
    dsimp only at this
    subst this
    exact ⟨rfl, rfl⟩
set_option maxRecDepth 20000 in
set_option maxHeartbeats 4000000 in
theorem back_walk (T : TM) (a1 : Option Addr) (c1 : Nat) (a2 : Option Addr) (c2 : Nat) (a : RC) (ad : Option Addr) (cp : Nat) (s : ByteArray) (w : World) (hv : TVs 0 w T a1 c1 a2 c2) (hkT : ∀ r ∈ T.rows, KR r ∧ r.d.length ≤ maxLen) (hda : DV 0 w ad cp a.d) (hka : KR a ∧ a.d.length ≤ maxLen) (_ : s.size ≤ maxLen) : Calls Try.prog 4 #[tv T a1 c1 a2 c2, rv a ad cp, .string s] w fun e w' => e = .returned (.bool true) ∧ Below w.heap.size w w' := by
  have HA := Lib.hid (fun W => alive_any W)
  have HG := Lib.hid (fun W (k : Below w.heap.size w W) => greatT_any 0 T a1 a2 c1 c2 W (hv.below k) (fun r hr => (hkT r hr).2))
  have HGa := Lib.hid (fun W (k : Below w.heap.size w W) => greatR_any 0 a ad cp W (hda.below k) hka.2)
  obtain ⟨X, e, hX⟩ : ∃ X e, putT T a = (X, e) := ⟨_, _, rfl⟩
  obtain ⟨D, d, hD⟩ : ∃ D d, dropT X a.id = (D, d) := ⟨_, _, rfl⟩
  obtain ⟨V, h, hV⟩ : ∃ V h, putT X a = (V, h) := ⟨_, _, rfl⟩
  have HL := Lib.hid (back_nums T a s X D V e d h hX hD hV)
  have HST := Lib.hid (fun (h1 : grT T = false) => smN_gr (fun r hr => (hkT r hr).1) h1)
  have HSA := Lib.hid (fun (h2 : grR a = false) => smR_gr hka.1 h2)
  have HSX := Lib.hid (fun (h1 : grT T = false) (h2 : grR a = false) => putN hX (HST.out h1) (HSA.out h2))
  have HPX := Lib.hid (fun (h1 : grT T = false) (h2 : grR a = false) => put_pt (B := 0) (B' := 0) (k := 12) hX (by decide) (HST.out h1) (HSA.out h2))
  have HPV := Lib.hid (fun (h1 : grT T = false) (h2 : grR a = false) => put_pt (B := 0) (B' := 0) (k := 13) hV (by decide) (HSX.out h1 h2) (HSA.out h2))
  have HDX := Lib.hid (fun (h1 : grT T = false) (h2 : grR a = false) => drop_pt (B := 0) (k := 13) hD (by decide) (HSX.out h1 h2))
  have HGX := Lib.hid (fun (h1 : grT T = false) (h2 : grR a = false) => get_gt (B := 0) (k := 13) (T := X) (HSX.out h1 h2) (by decide))
  have HGT := Lib.hid (fun (h1 : grT T = false) => get_gt (B := 0) (k := 12) (T := T) (HST.out h1) (by decide))
  have HCX := Lib.hid (fun (h1 : grT T = false) (h2 : grR a = false) W y1 y2 d1 d2 (u : TVs 0 W X y1 d1 y2 d2) => tCheck_any 0 X y1 y2 d1 d2 W u ((HSX.out h1 h2).smT (by decide)))
  have HSD := Lib.hid (fun (h1 : grT T = false) (h2 : grR a = false) W y1 y2 x1 x2 d1 d2 k1 k2 (u : TVs 0 W D y1 d1 y2 d2) (v : TVs 0 W T x1 k1 x2 k2) => sameT_any 0 0 D T y1 y2 x1 x2 d1 d2 k1 k2 W u v (fun r hr => (HSX.out h1 h2).len r (drop_sub (s := a.id) r (by rw [hD]; exact hr))))
  have HL1 := Lib.hid (fun (h1 : grT T = false) (h2 : grR a = false) => get_len (T := X) (s := a.id) (HSX.out h1 h2))
  have HL2 := Lib.hid (fun (h1 : grT T = false) => get_len (T := T) (s := s) (HST.out h1))
  have HSR := Lib.hid (fun (r t : RC) (ar at_ : Option Addr) (cr ct : Nat) W (u : DV 0 W ar cr r.d) (v : DV 0 W at_ ct t.d) (hl : r.d.length ≤ maxLen) => sameR_any 0 0 r t ar at_ cr ct W u v hl)
  have HVT := Lib.hid (fun W (k : Below w.heap.size w W) => hv.below k)
  have HDA := Lib.hid (fun W (k : Below w.heap.size w W) => hda.below k)
  obtain ⟨W0, hW0⟩ : ∃ W, W = (w.alloc (.cells #[.string T.name, .int .i64 T.most, .slice a1 T.uq.length c1, .slice a2 T.rows.length c2] 25)).alloc (.cells #[.string a.id, .slice ad a.d.length cp] 32) := ⟨_, rfl⟩
  have P0 : Hid (PB w W0 (.string T.name) (.int .i64 T.most) (.slice a1 T.uq.length c1) (.slice a2 T.rows.length c2) (.string a.id) (.slice ad a.d.length cp)) := Lib.hid (by rw [hW0]; exact pb_new _ _ _ _ _ _ _)
  unfold tv at HG HSD HCX ⊢
  unfold rv at HGa HSR ⊢
  clear hX hD hV hv hkT hda hka HST HSA HSX
  generalize ho1 : getT X a.id = o1 at *
  generalize ho2 : getT T s = o2 at *
  generalize ho3 : getT X s = o3 at *
  have HO1 := Lib.hid ho1
  have HO2 := Lib.hid ho2
  have HO3 := Lib.hid ho3
  clear ho1 ho2 ho3
  generalize grT T = gt at *
  generalize grR a = ga at *
  go_enter Try.func4, Try.ntmps4
  go_wp2_with fail
  rw [← hW0]
  clear hW0
  refine (HA.out W0).mono ?_
  rintro e' w1 ⟨rfl, b1⟩
  have P1 := Lib.hid (P0.out.up b1)
  have y0 := P1.out.b1.c0
  have y1 := P1.out.b1.c1
  have y2 := P1.out.b1.c2
  have y3 := P1.out.b1.c3
  clear b1 P0 HA
  go_wp2_with fail
  refine (HG.out w1 P1.out.bl).mono ?_
  rintro e' w2 ⟨rfl, b2⟩
  have P2 := Lib.hid (P1.out.up b2)
  clear b2 P1 y0 y1 y2 y3 HG
  cases gt with
  | true =>
    go_wp2_with fail
    go_ret
    exact ⟨rfl, P2.out.bl⟩
  | false =>
    have z0 := P2.out.b2.c0
    have z1 := P2.out.b2.c1
    go_wp2_with fail
    refine (HGa.out w2 P2.out.bl).mono ?_
    rintro e' w3 ⟨rfl, b3⟩
    have P3 := Lib.hid (P2.out.up b3)
    clear b3 P2 z0 z1 HGa
    cases ga with
    | true =>
      go_wp2_with fail
      go_ret
      exact ⟨rfl, P3.out.bl⟩
    | false =>
      by_cases hs3 : 300 < (s.size : Int)
      · go_wp2_with fail
        go_ret
        exact ⟨rfl, P3.out.bl⟩
      · have y0 := P3.out.b1.c0
        have y1 := P3.out.b1.c1
        have y2 := P3.out.b1.c2
        have y3 := P3.out.b1.c3
        have z0 := P3.out.b2.c0
        have z1 := P3.out.b2.c1
        go_wp2_with fail
        refine (HPX.out (by first | rfl | trivial) (by first | rfl | trivial) w3 _ _ _ _ _ _ (HVT.out _ P3.out.bl) (HDA.out _ P3.out.bl)).mono ?_
        rintro e' w5 ⟨e15, f15, e25, f25, rfl, v5, b5⟩
        have P5 := Lib.hid ((P3.out.up b5).up ((Below.refl _ _).alloc (Nat.le_refl _) (.cells #[.string X.name, .int .i64 X.most, .slice e15 X.uq.length f15, .slice e25 X.rows.length f25] 25)))
        have V5 := Lib.hid ((v5.mono (Nat.zero_le _)).below ((Below.refl _ _).alloc (Nat.le_refl _) (.cells #[.string X.name, .int .i64 X.most, .slice e15 X.uq.length f15, .slice e25 X.rows.length f25] 25)))
        have Q5 := Lib.hid (bx4_new w5 25 (.string X.name) (.int .i64 X.most) (.slice e15 X.uq.length f15) (.slice e25 X.rows.length f25))
        have q0 := Q5.out.c0
        have q1 := Q5.out.c1
        have q2 := Q5.out.c2
        have q3 := Q5.out.c3
        clear v5 b5 P3 y0 y1 y2 y3 z0 z1 HPX
        by_cases he : e = 0
        case neg =>
          have HN := Lib.hid (HL.out.2 he)
          have he2 : (e != 0) = true := by simpa using he
          have hl0 : ((X.rows.length : Int) == 0) = true := by rw [HN.out.1]; rfl
          have hl1 : (X.most == 0) = true := by rw [HN.out.2]; rfl
          clear he HN HL
          go_wp2_with fail
          go_ret
          exact ⟨rfl, P5.out.bl⟩
        have HN := Lib.hid (HL.out.1 he)
        have he2 : (e != 0) = false := by rw [he]; rfl
        have u0 := P5.out.b2.c0
        clear he HL
        go_wp2_with fail
        refine (HGX.out (by first | rfl | trivial) (by first | rfl | trivial) a.id _ _ _ _ _ V5.out).mono ?_
        rw [HO1.out]
        rintro e' w6 ⟨ad6, cp6, rfl, d6, b6⟩
        have P6 := Lib.hid ((P5.out.up b6).up ((Below.refl _ _).alloc (Nat.le_refl _) (.cells #[.string (o1.getD zC).id, .slice ad6 (o1.getD zC).d.length cp6] 32)))
        have V6 := Lib.hid ((V5.out.below b6).below ((Below.refl _ _).alloc (Nat.le_refl _) (.cells #[.string (o1.getD zC).id, .slice ad6 (o1.getD zC).d.length cp6] 32)))
        have Q6 := Lib.hid ((Q5.out.up b6).up ((Below.refl _ _).alloc (Nat.le_refl _) (.cells #[.string (o1.getD zC).id, .slice ad6 (o1.getD zC).d.length cp6] 32)))
        have D6 := Lib.hid (d6.below ((Below.refl _ _).alloc (Nat.le_refl _) (.cells #[.string (o1.getD zC).id, .slice ad6 (o1.getD zC).d.length cp6] 32)))
        have R6 := Lib.hid (bx2_new w6 (.string (o1.getD zC).id) (.slice ad6 (o1.getD zC).d.length cp6))
        have y0 := P6.out.b1.c0
        have y1 := P6.out.b1.c1
        have y2 := P6.out.b1.c2
        have y3 := P6.out.b1.c3
        clear d6 b6 P5 V5 Q5 q0 q1 q2 q3 u0
        go_wp2_with fail
        refine (HGT.out (by first | rfl | trivial) s _ _ _ _ _ (HVT.out _ P6.out.bl)).mono ?_
        rw [HO2.out]
        rintro e' w7 ⟨ad7, cp7, rfl, d7, b7⟩
        have P7 := Lib.hid ((P6.out.up b7).up ((Below.refl _ _).alloc (Nat.le_refl _) (.cells #[.string (o2.getD zC).id, .slice ad7 (o2.getD zC).d.length cp7] 32)))
        have V7 := Lib.hid ((V6.out.below b7).below ((Below.refl _ _).alloc (Nat.le_refl _) (.cells #[.string (o2.getD zC).id, .slice ad7 (o2.getD zC).d.length cp7] 32)))
        have Q7 := Lib.hid ((Q6.out.up b7).up ((Below.refl _ _).alloc (Nat.le_refl _) (.cells #[.string (o2.getD zC).id, .slice ad7 (o2.getD zC).d.length cp7] 32)))
        have D67 := Lib.hid ((D6.out.below b7).below ((Below.refl _ _).alloc (Nat.le_refl _) (.cells #[.string (o2.getD zC).id, .slice ad7 (o2.getD zC).d.length cp7] 32)))
        have D7 := Lib.hid (d7.below ((Below.refl _ _).alloc (Nat.le_refl _) (.cells #[.string (o2.getD zC).id, .slice ad7 (o2.getD zC).d.length cp7] 32)))
        have R67 := Lib.hid ((R6.out.up b7).up ((Below.refl _ _).alloc (Nat.le_refl _) (.cells #[.string (o2.getD zC).id, .slice ad7 (o2.getD zC).d.length cp7] 32)))
        have R7 := Lib.hid (bx2_new w7 (.string (o2.getD zC).id) (.slice ad7 (o2.getD zC).d.length cp7))
        have q0 := Q7.out.c0
        have q1 := Q7.out.c1
        have q2 := Q7.out.c2
        have q3 := Q7.out.c3
        clear d7 b7 P6 V6 Q6 D6 R6 y0 y1 y2 y3
        go_wp2_with fail
        refine (HGX.out (by first | rfl | trivial) (by first | rfl | trivial) s _ _ _ _ _ V7.out).mono ?_
        rw [HO3.out]
        rintro e' w8 ⟨ad8, cp8, rfl, d8, b8⟩
        have P8 := Lib.hid ((P7.out.up b8).up ((Below.refl _ _).alloc (Nat.le_refl _) (.cells #[.string (o3.getD zC).id, .slice ad8 (o3.getD zC).d.length cp8] 32)))
        have V8 := Lib.hid ((V7.out.below b8).below ((Below.refl _ _).alloc (Nat.le_refl _) (.cells #[.string (o3.getD zC).id, .slice ad8 (o3.getD zC).d.length cp8] 32)))
        have Q8 := Lib.hid ((Q7.out.up b8).up ((Below.refl _ _).alloc (Nat.le_refl _) (.cells #[.string (o3.getD zC).id, .slice ad8 (o3.getD zC).d.length cp8] 32)))
        have D68 := Lib.hid ((D67.out.below b8).below ((Below.refl _ _).alloc (Nat.le_refl _) (.cells #[.string (o3.getD zC).id, .slice ad8 (o3.getD zC).d.length cp8] 32)))
        have D78 := Lib.hid ((D7.out.below b8).below ((Below.refl _ _).alloc (Nat.le_refl _) (.cells #[.string (o3.getD zC).id, .slice ad8 (o3.getD zC).d.length cp8] 32)))
        have D8 := Lib.hid (d8.below ((Below.refl _ _).alloc (Nat.le_refl _) (.cells #[.string (o3.getD zC).id, .slice ad8 (o3.getD zC).d.length cp8] 32)))
        have R68 := Lib.hid ((R67.out.up b8).up ((Below.refl _ _).alloc (Nat.le_refl _) (.cells #[.string (o3.getD zC).id, .slice ad8 (o3.getD zC).d.length cp8] 32)))
        have R78 := Lib.hid ((R7.out.up b8).up ((Below.refl _ _).alloc (Nat.le_refl _) (.cells #[.string (o3.getD zC).id, .slice ad8 (o3.getD zC).d.length cp8] 32)))
        have R8 := Lib.hid (bx2_new w8 (.string (o3.getD zC).id) (.slice ad8 (o3.getD zC).d.length cp8))
        have y0 := Q8.out.c0
        have y1 := Q8.out.c1
        have y2 := Q8.out.c2
        have y3 := Q8.out.c3
        have u0 := P8.out.b2.c0
        clear d8 b8 P7 V7 Q7 D67 D7 R67 R7 q0 q1 q2 q3
        go_wp2_with fail
        refine (HDX.out (by first | rfl | trivial) (by first | rfl | trivial) _ _ _ _ _ V8.out).mono ?_
        rintro e' w9 ⟨e19, f19, e29, f29, rfl, v9, b9⟩
        have P9 := Lib.hid ((P8.out.up b9).up ((Below.refl _ _).alloc (Nat.le_refl _) (.cells #[.string D.name, .int .i64 D.most, .slice e19 D.uq.length f19, .slice e29 D.rows.length f29] 25)))
        have VX9 := Lib.hid ((V8.out.below b9).below ((Below.refl _ _).alloc (Nat.le_refl _) (.cells #[.string D.name, .int .i64 D.most, .slice e19 D.uq.length f19, .slice e29 D.rows.length f29] 25)))
        have V9 := Lib.hid ((v9.mono (Nat.zero_le _)).below ((Below.refl _ _).alloc (Nat.le_refl _) (.cells #[.string D.name, .int .i64 D.most, .slice e19 D.uq.length f19, .slice e29 D.rows.length f29] 25)))
        have Q9 := Lib.hid ((Q8.out.up b9).up ((Below.refl _ _).alloc (Nat.le_refl _) (.cells #[.string D.name, .int .i64 D.most, .slice e19 D.uq.length f19, .slice e29 D.rows.length f29] 25)))
        have D69 := Lib.hid ((D68.out.below b9).below ((Below.refl _ _).alloc (Nat.le_refl _) (.cells #[.string D.name, .int .i64 D.most, .slice e19 D.uq.length f19, .slice e29 D.rows.length f29] 25)))
        have D79 := Lib.hid ((D78.out.below b9).below ((Below.refl _ _).alloc (Nat.le_refl _) (.cells #[.string D.name, .int .i64 D.most, .slice e19 D.uq.length f19, .slice e29 D.rows.length f29] 25)))
        have D89 := Lib.hid ((D8.out.below b9).below ((Below.refl _ _).alloc (Nat.le_refl _) (.cells #[.string D.name, .int .i64 D.most, .slice e19 D.uq.length f19, .slice e29 D.rows.length f29] 25)))
        have R69 := Lib.hid ((R68.out.up b9).up ((Below.refl _ _).alloc (Nat.le_refl _) (.cells #[.string D.name, .int .i64 D.most, .slice e19 D.uq.length f19, .slice e29 D.rows.length f29] 25)))
        have R79 := Lib.hid ((R78.out.up b9).up ((Below.refl _ _).alloc (Nat.le_refl _) (.cells #[.string D.name, .int .i64 D.most, .slice e19 D.uq.length f19, .slice e29 D.rows.length f29] 25)))
        have R89 := Lib.hid ((R8.out.up b9).up ((Below.refl _ _).alloc (Nat.le_refl _) (.cells #[.string D.name, .int .i64 D.most, .slice e19 D.uq.length f19, .slice e29 D.rows.length f29] 25)))
        have S9 := Lib.hid (bx4_new w9 25 (.string D.name) (.int .i64 D.most) (.slice e19 D.uq.length f19) (.slice e29 D.rows.length f29))
        have q0 := Q9.out.c0
        have q1 := Q9.out.c1
        have q2 := Q9.out.c2
        have q3 := Q9.out.c3
        have z0 := P9.out.b2.c0
        have z1 := P9.out.b2.c1
        clear v9 b9 P8 V8 Q8 D68 D78 D8 R68 R78 R8 y0 y1 y2 y3 u0
        go_wp2_with fail
        refine (HPV.out (by first | rfl | trivial) (by first | rfl | trivial) _ _ _ _ _ _ _ VX9.out (HDA.out _ P9.out.bl)).mono ?_
        rintro e' wA ⟨e1A, f1A, e2A, f2A, rfl, _, bA⟩
        have PA := Lib.hid ((P9.out.up bA).up ((Below.refl _ _).alloc (Nat.le_refl _) (.cells #[.string V.name, .int .i64 V.most, .slice e1A V.uq.length f1A, .slice e2A V.rows.length f2A] 25)))
        have VXA := Lib.hid ((VX9.out.below bA).below ((Below.refl _ _).alloc (Nat.le_refl _) (.cells #[.string V.name, .int .i64 V.most, .slice e1A V.uq.length f1A, .slice e2A V.rows.length f2A] 25)))
        have VDA := Lib.hid ((V9.out.below bA).below ((Below.refl _ _).alloc (Nat.le_refl _) (.cells #[.string V.name, .int .i64 V.most, .slice e1A V.uq.length f1A, .slice e2A V.rows.length f2A] 25)))
        have QA := Lib.hid ((Q9.out.up bA).up ((Below.refl _ _).alloc (Nat.le_refl _) (.cells #[.string V.name, .int .i64 V.most, .slice e1A V.uq.length f1A, .slice e2A V.rows.length f2A] 25)))
        have D6A := Lib.hid ((D69.out.below bA).below ((Below.refl _ _).alloc (Nat.le_refl _) (.cells #[.string V.name, .int .i64 V.most, .slice e1A V.uq.length f1A, .slice e2A V.rows.length f2A] 25)))
        have D7A := Lib.hid ((D79.out.below bA).below ((Below.refl _ _).alloc (Nat.le_refl _) (.cells #[.string V.name, .int .i64 V.most, .slice e1A V.uq.length f1A, .slice e2A V.rows.length f2A] 25)))
        have D8A := Lib.hid ((D89.out.below bA).below ((Below.refl _ _).alloc (Nat.le_refl _) (.cells #[.string V.name, .int .i64 V.most, .slice e1A V.uq.length f1A, .slice e2A V.rows.length f2A] 25)))
        have R6A := Lib.hid ((R69.out.up bA).up ((Below.refl _ _).alloc (Nat.le_refl _) (.cells #[.string V.name, .int .i64 V.most, .slice e1A V.uq.length f1A, .slice e2A V.rows.length f2A] 25)))
        have R7A := Lib.hid ((R79.out.up bA).up ((Below.refl _ _).alloc (Nat.le_refl _) (.cells #[.string V.name, .int .i64 V.most, .slice e1A V.uq.length f1A, .slice e2A V.rows.length f2A] 25)))
        have R8A := Lib.hid ((R89.out.up bA).up ((Below.refl _ _).alloc (Nat.le_refl _) (.cells #[.string V.name, .int .i64 V.most, .slice e1A V.uq.length f1A, .slice e2A V.rows.length f2A] 25)))
        have SA := Lib.hid ((S9.out.up bA).up ((Below.refl _ _).alloc (Nat.le_refl _) (.cells #[.string V.name, .int .i64 V.most, .slice e1A V.uq.length f1A, .slice e2A V.rows.length f2A] 25)))
        have y0 := QA.out.c0
        have y1 := QA.out.c1
        have y2 := QA.out.c2
        have y3 := QA.out.c3
        clear bA P9 VX9 V9 Q9 D69 D79 D89 R69 R79 R89 S9 q0 q1 q2 q3 z0 z1
        go_wp2_with fail
        refine (HCX.out (by first | rfl | trivial) (by first | rfl | trivial) _ _ _ _ _ VXA.out).mono ?_
        rw [HN.out.1]
        rintro e' wB ⟨rfl, bB⟩
        have r0 := (R6A.out.up bB).c0
        have r1 := (R6A.out.up bB).c1
        have z0 := (PA.out.up bB).b2.c0
        have z1 := (PA.out.up bB).b2.c1
        have PBB := Lib.hid (PA.out.up bB)
        have BB := Lib.hid bB
        have his : o1.isSome = true := HN.out.2.2.1
        have hd0 : (d != 0) = false := by rw [HN.out.2.2.2.1]; rfl
        have hh0 : (h != 271) = false := by rw [HN.out.2.2.2.2.2.1]; rfl
        have HC1 := Lib.hid (HSR.out (o1.getD zC) a ad6 ad cp6 cp wB (D6A.out.below bB) (HDA.out _ PBB.out.bl) (HL1.out (by first | rfl | trivial) (by first | rfl | trivial)))
        rw [decide_eq_true HN.out.2.1] at HC1
        clear bB y0 y1 y2 y3 PA
        go_wp2_with fail
        refine HC1.out.mono ?_
        rintro e' wC ⟨rfl, bC⟩
        have BC := Lib.hid (BB.out.trans (bC.mono BB.out.size))
        have PC := Lib.hid (PBB.out.up bC)
        have q0 := (SA.out.up BC.out).c0
        have q1 := (SA.out.up BC.out).c1
        have q2 := (SA.out.up BC.out).c2
        have q3 := (SA.out.up BC.out).c3
        have y0 := PC.out.b1.c0
        have y1 := PC.out.b1.c1
        have y2 := PC.out.b1.c2
        have y3 := PC.out.b1.c3
        have HC2 := Lib.hid (HSD.out (by first | rfl | trivial) (by first | rfl | trivial) wC _ _ _ _ _ _ _ _ (VDA.out.below BC.out) (HVT.out _ PC.out.bl))
        rw [decide_eq_true HN.out.2.2.2.2.1] at HC2
        clear bC BB PBB r0 r1 z0 z1 HC1
        go_wp2_with fail
        refine HC2.out.mono ?_
        rintro e' wD ⟨rfl, bD⟩
        have BD := Lib.hid (BC.out.trans (bD.mono BC.out.size))
        have PD' := Lib.hid (PC.out.up bD)
        have z0 := PD'.out.b2.c0
        clear bD BC PC q0 q1 q2 q3 y0 y1 y2 y3 HC2
        by_cases hsa : s = a.id
        · have hs1 : (s.toList == a.id.toList) = true := by rw [str_is]; simpa using hsa
          clear hsa HN
          go_wp2_with fail
          go_ret
          exact ⟨rfl, PD'.out.bl⟩
        · have hs1 : (s.toList == a.id.toList) = false := by rw [str_is]; simpa using hsa
          have HO : Hid (o3 = o2) := Lib.hid (HN.out.2.2.2.2.2.2 hsa)
          have hoo : (o2.isSome == o3.isSome) = true := by rw [HO.out]; simp
          have r0 := (R7A.out.up BD.out).c0
          have r1 := (R7A.out.up BD.out).c1
          have x0 := (R8A.out.up BD.out).c0
          have x1 := (R8A.out.up BD.out).c1
          have HC3 := Lib.hid (HSR.out (o2.getD zC) (o3.getD zC) ad7 ad8 cp7 cp8 wD (D7A.out.below BD.out) (D8A.out.below BD.out) (HL2.out (by first | rfl | trivial)))
          rw [decide_eq_true (show o2.getD zC = o3.getD zC by rw [HO.out])] at HC3
          clear hsa HN HO
          go_wp2_with fail
          refine HC3.out.mono ?_
          rintro e' wE ⟨rfl, bE⟩
          have PE := Lib.hid (PD'.out.up bE)
          clear bE
          go_wp2_with fail
          go_ret
          exact ⟨rfl, PE.out.bl⟩
end Go.Proofs.Ytfigebepeniikaa
