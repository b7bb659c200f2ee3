/- Layer 3: append onto a row that is kept; CellNames. -/
import Derived.Test.YtfmgkndljppffaaD2
import Derived.ArgAppend
namespace Go.Proofs.Ytfmgkndljppffaa
open Go.RowKit Go.Maps
section
variable {P : Program}
theorem own_part {w : World} {base : Nat} {e : TypeId} {size g n m cap : Nat} {xs news : List Value} (hx : xs.length = n * size) (h : w.ownsRow base e size (.slice (some ⟨g, 0, none⟩) (n + m) cap) (n + m) (xs ++ news)) : w.ownsRow base e size (.slice (some ⟨g, 0, none⟩) n cap) n xs := by
  refine ⟨hx, ?_⟩
  rcases h.2 with ⟨h', _⟩ | ⟨g', cap', cur, h', hb, hg, h1, h2, h3, h4⟩
  · simp at h'
  · simp only [Value.slice.injEq, Option.some.injEq, Addr.mk.injEq, and_true, true_and] at h'
    obtain ⟨rfl, rfl⟩ := h'
    refine .inr ⟨g, cap, cur, rfl, hb, hg, by omega, h2, h3, ?_⟩
    have : cur.toList.take (n * size) = (cur.toList.take ((n + m) * size)).take (n * size) := by
      rw [List.take_take, Nat.min_eq_left (Nat.mul_le_mul_right _ (by omega))]
    rw [this, h4, ← hx, List.take_left]
theorem run_append_keep (w : World) (base : Nat) (t ty e : TypeId) (i : TypeInfo) (z : Value) (size bytes : Nat) (ht : P.underlying t = some (.slice e)) (hi : P.info? e = some i) (hz : i.zero = some z)
    (hsize : i.size = size) (hby : i.bytes = bytes) (hzs : z.cells.size = size) (hsz : 0 < size)
    (v : Value) (n : Nat) (xs : List Value) (hown : w.ownsRow base e size v n xs) (hn0 : 0 < n)
    (a : Addr) (m c : Nat) (news : List Value) (hl : news.length = m * size) (hnews : ∀ j u, news[j]? = some u → w.cell? (a.add j) = some u) (h1 : ∀ u ∈ news, u.oneCell' = true)
    (h63 : n + m ≤ maxLen) (hbytes : (n + m) * bytes ≤ 140737488355328) (hbase : base ≤ w.heap.size) :
    ∃ v' w', (Builtin.append_ #[t, t] ty #[v, .slice (some a) m c]).run P w = .ok v' w' ∧ w'.ownsRow base e size v' (n + m) (xs ++ news) ∧ w'.ownsRow base e size v n xs ∧ w.grownBy w' v.ownBlock := by
  rcases hown.2 with ⟨_, h0⟩ | ⟨g, cap, cur, rfl, hbg, hg, hnc, hcm, hcs, htake⟩
  · omega
  · by_cases hr : n + m ≤ cap
    · obtain ⟨w', r1, r2, r3⟩ := run_append_fits (P := P) w base t ty e i size ht hi hsize g n cap xs hown a m c news hl hnews h1 hr
      exact ⟨_, w', r1, r2, own_part hown.1 r2, by simpa [Value.ownBlock] using r3⟩
    · obtain ⟨v', w', r1, r2, r3⟩ := run_append_arg_grows (P := P) w t ty e i z size bytes ht hi hz hsize hby hzs hsz ⟨g, 0, none⟩ n cap xs hown.1 (fun j u hj => by
        rw [Addr.add_lit, Nat.zero_add, hown.cellAt j (by rw [← hown.1]; exact (List.getElem?_eq_some_iff.1 hj).1)]; exact hj) a m c news hl hnews (by omega) h63 hbytes
      refine ⟨v', w', r1, ?_, hown.kept r3 (.inr (by simp [Value.ownBlock])), ⟨r3.os, r3.tape, r3.output, r3.size, fun k hk _ => r3.block k hk (by simp)⟩⟩
      refine ⟨r2.1, ?_⟩
      rcases r2.2 with h | ⟨g', cap', cur', e', hb', rest⟩
      · exact .inl h
      · exact .inr ⟨g', cap', cur', e', Nat.le_trans hbase hb', rest⟩
theorem wpList_append_keep {w : World} {ops : Array Oper} {rest : List Oper} {o : Oper} {a : Act} {Q : Exit → Act → World → Prop} (hgd : Region.wanted o (yielded ops a.tmps) = true)
    (s x : Operand) (t : TypeId) (hop : o.op = Op.call { callee := Callee.builtin Builtin.append, args := #[s, x], argTypes := #[t, t] })
    (base : Nat) (e : TypeId) (i : TypeInfo) (z : Value) (size bytes : Nat) (ht : P.underlying t = some (.slice e)) (hi : P.info? e = some i) (hz : i.zero = some z)
    (hsize : i.size = size) (hby : i.bytes = bytes) (hzs : z.cells.size = size) (hsz : 0 < size)
    (v : Value) (n : Nat) (xs : List Value) (hs : a.eval s = v) (hown : w.ownsRow base e size v n xs) (hn0 : 0 < n)
    (ad : Addr) (m c : Nat) (news : List Value) (hx : a.eval x = .slice (some ad) m c) (hl : news.length = m * size) (hnews : ∀ j u, news[j]? = some u → w.cell? (ad.add j) = some u) (h1 : ∀ u ∈ news, u.oneCell' = true)
    (h63 : n + m ≤ maxLen) (hbytes : (n + m) * bytes ≤ 140737488355328) (hbase : base ≤ w.heap.size)
    (hK : ∀ v' w', w'.ownsRow base e size v' (n + m) (xs ++ news) → w'.ownsRow base e size v n xs → w.grownBy w' v.ownBlock → wpList P ops Q rest (a.put o.dst v') w') :
    wpList P ops Q (o :: rest) a w := by
  refine wpList_step fun K hK' => ?_
  rw [if_pos hgd]
  obtain ⟨v', w', hrun, r1, r2, r3⟩ := run_append_keep (P := P) w base t o.type e i z size bytes ht hi hz hsize hby hzs hsz v n xs hown hn0 ad m c news hl hnews h1 h63 hbytes hbase
  unfold Oper.wp
  simp [execOp, hop, resolve, invoke, builtin, hs, hx, hrun, Result.andThen]
  exact hK' _ _ (hK v' w' r1 r2 r3)
end
theorem infoC : ∃ i, Try.prog.info? 32 = some i ∧ i.zero = some (.agg #[.int .u8 0, .string ⟨#[]⟩, .string ⟨#[]⟩, .int .i64 0, .int .i64 0]) ∧ i.size = 5 ∧ i.bytes = 56 := by
  have h := Try.typeInfo32 default
  unfold typeInfo at h
  cases hq : Try.prog.info? 32 with
  | none => simp [hq] at h
  | some i =>
    simp [hq] at h
    exact ⟨i, rfl, by rw [h]; rfl, by rw [h]; rfl, by rw [h]; rfl⟩
def c6 : CR := ⟨6, ⟨#[]⟩, ⟨#[]⟩, 0, 1⟩
def c0 : CR := ⟨0, ⟨#[]⟩, ⟨#[]⟩, 0, 0⟩
def c60 : CR := ⟨6, ⟨#[]⟩, ⟨#[]⟩, 0, 0⟩
def deepL (i : Nat) : List CR := List.replicate i c6
theorem deep_succ (i : Nat) : rw5 (deepL (i + 1)) = rw5 (deepL i) ++ [.int .u8 6, .string ⟨#[]⟩, .string ⟨#[]⟩, .int .i64 0, .int .i64 1] := by
  unfold deepL
  rw [List.replicate_succ', rw5_app]; rfl
theorem cw_small {L : List CR} {n : Nat} (hn : n = L.length) (h : ∀ c ∈ L, c.k < 256 ∧ c.nm.size ≤ maxLen ∧ c.tx.size ≤ 1000000 ∧ -9223372036854775808 ≤ c.m ∧ c.m ≤ 9223372036854775807) : CW n (gl L) := fun i hi => by
  have : gl L i ∈ L := by
    unfold gl
    rw [List.getD_eq_getElem?_getD, List.getElem?_eq_getElem (by omega)]
    exact List.getElem_mem _
  exact h _ this
theorem c6_ok : c6.k < 256 ∧ c6.nm.size ≤ maxLen ∧ c6.tx.size ≤ 1000000 ∧ -9223372036854775808 ≤ c6.m ∧ c6.m ≤ 9223372036854775807 := by refine ⟨?_, ?_, ?_, ?_, ?_⟩ <;> decide
theorem c0_ok : c0.k < 256 ∧ c0.nm.size ≤ maxLen ∧ c0.tx.size ≤ 1000000 ∧ -9223372036854775808 ≤ c0.m ∧ c0.m ≤ 9223372036854775807 := by refine ⟨?_, ?_, ?_, ?_, ?_⟩ <;> decide
theorem c60_ok : c60.k < 256 ∧ c60.nm.size ≤ maxLen ∧ c60.tx.size ≤ 1000000 ∧ -9223372036854775808 ≤ c60.m ∧ c60.m ≤ 9223372036854775807 := by refine ⟨?_, ?_, ?_, ?_, ?_⟩ <;> decide
theorem check_lit (L : List CR) (n : Nat) (x : Int) (hn : L.length = n) (hcw : CW n (gl L)) (hx : eC (ckC (gl L) n) = x) (a : Option Addr) (c : Nat) (w : World) (hv : CV w a n (gl L)) : Calls Try.prog 11 #[.slice a n c] w fun e w' => e = .returned (.int .i64 x) ∧ Below w.heap.size w w' := by
  rw [← hx]; exact cCheck_any a n c (gl L) w hv hcw
set_option maxRecDepth 20000 in
set_option maxHeartbeats 4000000 in
theorem names_true (w : World) : Calls Try.prog 3 #[] w fun e w' => e = .returned (.bool true) ∧ Below w.heap.size w w' := by
  obtain ⟨i0, hi, hz0, hz1, hz2⟩ := infoC
  have HF := Lib.hid (fun W => five_any W)
  have HK1 := Lib.hid (fun a c W hv => kids5 1 0 1 rfl a c (by decide) (by decide +kernel) W hv)
  have HM := Lib.hid (fun a c W hv => memb5 ⟨#[99]⟩ none 0 rfl a c (by decide +kernel) W hv)
  have HC0 := Lib.hid (fun W => check_zero none 0 W)
  have HC1 := Lib.hid (fun a c W hv => check_lit [c6] 1 8 rfl (cw_small rfl (fun c hc => by simp at hc; subst hc; exact c6_ok)) (by decide +kernel) a c W hv)
  have HC2 := Lib.hid (fun a c W hv => check_lit [c0, c0] 2 8 rfl (cw_small rfl (fun c hc => by simp at hc; subst hc; exact c0_ok)) (by decide +kernel) a c W hv)
  have HC3 := Lib.hid (fun a c W hv => check_lit (deepL 16 ++ [c0]) 17 0 rfl (cw_small rfl (fun c hc => by
    rcases List.mem_append.1 hc with h | h
    · rw [List.eq_of_mem_replicate h]; exact c6_ok
    · simp at h; subst h; exact c0_ok)) (by decide +kernel) a c W hv)
  have HC4 := Lib.hid (fun a c W hv => check_lit (deepL 16 ++ [c60]) 17 8 rfl (cw_small rfl (fun c hc => by
    rcases List.mem_append.1 hc with h | h
    · rw [List.eq_of_mem_replicate h]; exact c6_ok
    · simp at h; subst h; exact c60_ok)) (by decide +kernel) a c W hv)
  have HC5 := Lib.hid (fun a c W hv => check_lit fiveL 5 0 rfl five_cw (by decide +kernel) a c W hv)
  have HA := Lib.hid (fun W => alive_true W)
  have B0 := Lib.hid (Below.refl w.heap.size w)
  have hmk : ∀ w : World, (Instr.makeSlice 26 (.int .i64 2) (.int .i64 2)).run Try.prog w = .ok (.slice (some ⟨w.heap.size, 0, none⟩) 2 2) (w.alloc (.cells #[.int .u8 0, .string ⟨#[]⟩, .string ⟨#[]⟩, .int .i64 0, .int .i64 0, .int .u8 0, .string ⟨#[]⟩, .string ⟨#[]⟩, .int .i64 0, .int .i64 0] 32)) := fun _ => by kernel_rfl
  go_enter Try.func3, Try.ntmps3
  go_wp2_with fail
  with_reducible refine (HF.out _).mono ?_
  rintro e w1 ⟨a1, k1, rfl, hv1, b1⟩
  have V1 := Lib.hid hv1
  have B1 := Lib.hid ((B0.out).trans (b1.mono (B0.out).size))
  clear b1
  clear hv1
  go_wp2_with fail
  with_reducible refine (HK1.out a1 k1 w1 V1.out).mono ?_
  rintro e w2 ⟨ad1, x1, rfl, _, b2⟩
  have B2 := Lib.hid ((B1.out).trans (b2.mono (B1.out).size))
  clear b2
  go_wp2_with fail
  with_reducible refine (HF.out _).mono ?_
  rintro e w3 ⟨a3, k3, rfl, hv3, b3⟩
  have V3 := Lib.hid hv3
  have B3 := Lib.hid ((B2.out).trans (b3.mono (B2.out).size))
  clear b3
  clear hv3 V1 B1 B2
  go_wp2_with fail
  with_reducible refine (HM.out a3 k3 w3 V3.out).mono ?_
  rintro e w4 ⟨rfl, b4⟩
  have B4 := Lib.hid ((B3.out).trans (b4.mono (B3.out).size))
  clear b4
  rw [show (none : Option Nat).isSome = false from rfl]
  go_wp2_with fail
  with_reducible refine (HC0.out _).mono ?_
  rintro e w5 ⟨rfl, b5⟩
  have B5 := Lib.hid ((B4.out).trans (b5.mono (B4.out).size))
  clear b5
  have V5 := Lib.hid (cv_block (L := [c6]) (heap_alloc_new w5 (.cells #[.int .u8 6, .string ⟨#[]⟩, .string ⟨#[]⟩, .int .i64 0, .int .i64 1] 32)) rfl)
  have A5 := Lib.hid (B5.out.alloc B5.out.size (.cells #[.int .u8 6, .string ⟨#[]⟩, .string ⟨#[]⟩, .int .i64 0, .int .i64 1] 32))
  go_wp2_with fail
  with_reducible refine (HC1.out _ _ _ V5.out).mono ?_
  rintro e w6 ⟨rfl, b6⟩
  have B6 := Lib.hid ((A5.out).trans (b6.mono (A5.out).size))
  clear b6
  clear A5 V5 V3 B3 B4 B5
  have V6 := Lib.hid (cv_block (L := [c0, c0]) (heap_alloc_new w6 (.cells #[.int .u8 0, .string ⟨#[]⟩, .string ⟨#[]⟩, .int .i64 0, .int .i64 0, .int .u8 0, .string ⟨#[]⟩, .string ⟨#[]⟩, .int .i64 0, .int .i64 0] 32)) rfl)
  have A6 := Lib.hid (B6.out.alloc B6.out.size (.cells #[.int .u8 0, .string ⟨#[]⟩, .string ⟨#[]⟩, .int .i64 0, .int .i64 0, .int .u8 0, .string ⟨#[]⟩, .string ⟨#[]⟩, .int .i64 0, .int .i64 0] 32))
  go_wp2_with fail
  with_reducible refine (HC2.out _ _ _ V6.out).mono ?_
  rintro e w7 ⟨rfl, b7⟩
  have B7 := Lib.hid ((A6.out).trans (b7.mono (A6.out).size))
  clear b7
  clear A6 V6 B6
  clear hmk
  go_wp2_with fail
  go_loopw [6, 7] (fun v6 v7 wr => ∃ i : Nat, i ≤ 16 ∧ v7 = .int .i64 i ∧ Hid (wr.ownsRow w.heap.size 32 5 v6 i (rw5 (deepL i))) ∧ Hid (Below w.heap.size w wr)) (fun _ v7 _ => 16 - (intOf v7).toNat)
  case atStart => exact ⟨0, by decide, rfl, Lib.hid (World.ownsRow_nil _ _ _ _), B7⟩
  case round =>
    obtain ⟨i, hi16, rfl, HO, HB⟩ := hrel
    by_cases hlt : i < 16
    · have hlt' : (i : Int) < 16 := by omega
      have hs3 : w.heap.size ≤ wr.heap.size + 1 := by have := HB.out.size; omega
      clear B7
      go_wp2_with (at_builtin; refine wpList_append_own _ rfl _ _ 26 rfl w.heap.size 32 i0 (.agg #[.int .u8 0, .string ⟨#[]⟩, .string ⟨#[]⟩, .int .i64 0, .int .i64 0]) 5 56 Try.underlying26 hi hz0 hz1 hz2 rfl (by decide) _ _ _ rfl (HO.out.alloc _) ⟨wr.heap.size, 0, none⟩ 1 1 [.int .u8 6, .string ⟨#[]⟩, .string ⟨#[]⟩, .int .i64 0, .int .i64 1] rfl rfl (news_at _ _ _ _ rfl) (by intro u hu; simp at hu; rcases hu with rfl | rfl | rfl | rfl | rfl <;> rfl) (by unfold maxLen; omega) (by omega) (by simpa using hs3) ?_; intro v1 w3 ho1 hg1 _)
      go_roundw
      case rel => exact ⟨i + 1, by omega, by go_num, Lib.hid (by rw [deep_succ]; exact ho1), Lib.hid ((HB.out.alloc HB.out.size _).grown hg1 (by have := HB.out.size; show w.heap.size ≤ (wr.heap.push _).size; simp; omega) (fun q hq => (HO.out.lt q hq).1))⟩
      case measure => simp [intOf]; omega
    · have hi2 : i = 16 := by omega
      subst hi2
      have hs3 : w.heap.size ≤ wr.heap.size + 1 := by have := HB.out.size; omega
      clear B7 hlt
      go_wp2_with (at_builtin; refine wpList_append_keep (by rfl) _ _ 26 rfl w.heap.size 32 i0 (.agg #[.int .u8 0, .string ⟨#[]⟩, .string ⟨#[]⟩, .int .i64 0, .int .i64 0]) 5 56 Try.underlying26 hi hz0 hz1 hz2 rfl (by decide) _ _ _ rfl (HO.out.alloc _) (by decide) ⟨wr.heap.size, 0, none⟩ 1 1 [.int .u8 0, .string ⟨#[]⟩, .string ⟨#[]⟩, .int .i64 0, .int .i64 0] rfl rfl (news_at _ _ _ _ rfl) (by intro u hu; simp at hu; rcases hu with rfl | rfl | rfl | rfl | rfl <;> rfl) (by decide) (by decide) (by simpa using hs3) ?_; intro v1 w8 ho1 hk1 hg1)
      obtain ⟨ad, cc, rfl, hv8, _, _⟩ := own_cv (L := deepL 16 ++ [c0]) (n := 17) rfl (by rw [rw5_app]; exact ho1)
      have V8 := Lib.hid hv8
      have K8 := Lib.hid hk1
      have B8 : Hid (Below w.heap.size w w8) := Lib.hid ((HB.out.alloc HB.out.size _).grown hg1 (by have := HB.out.size; show w.heap.size ≤ (wr.heap.push _).size; simp; omega) (fun q hq => (HO.out.lt q hq).1))
      clear hv8 hk1 hg1 ho1 HO HB
      go_wp2_with fail
      with_reducible refine (HC3.out ad cc w8 V8.out).mono ?_
      rintro e w9 ⟨rfl, b9⟩
      have B9 := Lib.hid (B8.out.trans (b9.mono B8.out.size))
      have K9 : Hid (w9.ownsRow w.heap.size 32 5 _ 16 (rw5 (deepL 16))) := Lib.hid (K8.out.kept (row := none) ⟨b9.os, b9.tape, b9.output, b9.size, fun k hk _ => b9.block k hk⟩ (Classical.em _))
      have hs4 : w.heap.size ≤ w9.heap.size + 1 := by have := B9.out.size; omega
      clear b9 B8 K8 V8
      go_wp2_with (at_builtin; refine wpList_append_keep (by rfl) _ _ 26 rfl w.heap.size 32 i0 (.agg #[.int .u8 0, .string ⟨#[]⟩, .string ⟨#[]⟩, .int .i64 0, .int .i64 0]) 5 56 Try.underlying26 hi hz0 hz1 hz2 rfl (by decide) _ _ _ rfl (K9.out.alloc _) (by decide) ⟨w9.heap.size, 0, none⟩ 1 1 [.int .u8 6, .string ⟨#[]⟩, .string ⟨#[]⟩, .int .i64 0, .int .i64 0] rfl rfl (news_at _ _ _ _ rfl) (by intro u hu; simp at hu; rcases hu with rfl | rfl | rfl | rfl | rfl <;> rfl) (by decide) (by decide) (by simpa using hs4) ?_; intro v2 w10 ho2 _ hg2)
      obtain ⟨ad2, cc2, rfl, hv10, _, _⟩ := own_cv (L := deepL 16 ++ [c60]) (n := 17) rfl (by rw [rw5_app]; exact ho2)
      have V10 := Lib.hid hv10
      have B10 : Hid (Below w.heap.size w w10) := Lib.hid ((B9.out.alloc B9.out.size _).grown hg2 (by have := B9.out.size; show w.heap.size ≤ (w9.heap.push _).size; simp; omega) (fun q hq => (K9.out.lt q hq).1))
      clear hv10 hg2 ho2 K9 B9
      go_wp2_with fail
      with_reducible refine (HC4.out ad2 cc2 w10 V10.out).mono ?_
      rintro e w11 ⟨rfl, b11⟩
      have B11 := Lib.hid (B10.out.trans (b11.mono B10.out.size))
      clear b11 B10 V10
      go_wp2_with fail
      with_reducible refine (HA.out w11).mono ?_
      rintro e w12 ⟨rfl, b12⟩
      have B12 := Lib.hid (B11.out.trans (b12.mono B11.out.size))
      clear b12 B11
      go_wp2_with fail
      with_reducible refine (HF.out w12).mono ?_
      rintro e w13 ⟨a13, k13, rfl, hv13, b13⟩
      have V13 := Lib.hid hv13
      have B13 := Lib.hid (B12.out.trans (b13.mono B12.out.size))
      clear b13 B12 hv13
      go_wp2_with fail
      with_reducible refine (HC5.out a13 k13 w13 V13.out).mono ?_
      rintro e w14 ⟨rfl, b14⟩
      have B14 := Lib.hid (B13.out.trans (b14.mono B13.out.size))
      clear b14 B13
      go_wp2_with fail
      go_ret
      exact ⟨rfl, B14.out⟩
end Go.Proofs.Ytfmgkndljppffaa
