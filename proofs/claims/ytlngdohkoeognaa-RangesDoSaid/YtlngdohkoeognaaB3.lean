/- Layer 6: the document's Twin, Same, SameInts. -/
import Derived.Test.YtlngdohkoeognaaB2
import Derived.Laws.AppendOwnNone
namespace Go.Proofs.Ytlngdohkoeognaa
open Go.RowKit Go.Maps
def TwinPost (w : World) (L : List Rg) (r : Ending) (w' : World) : Prop := ∃ v, r = .returned v ∧ Own w' w.heap.size v L ∧ Below w.heap.size w w'
set_option maxRecDepth 20000 in
theorem rtwin_any (a : Option Addr) (cap : Nat) (L : List Rg) (w : World) (hv : RV w a L) (hn : L.length ≤ 1000000) (ha : a = none → L.length = 0 ∧ cap = 0) : Calls Try.prog 16 #[.slice a L.length cap] w (TwinPost w L) := by
  obtain ⟨i0, hi, hz0, hz1, hz2⟩ := infoR
  have HO := Lib.hid (World.ownsRow_nil w w.heap.size 48 2)
  by_cases h0 : L.length = 0
  · have e0 : L = [] := List.length_eq_zero_iff.1 h0
    subst e0
    have hO : Own w w.heap.size (.slice none 0 0) [] := Own.nil _ _
    have HOO := Lib.hid hO
    rw [show ([] : List Rg).length = 0 from rfl]
    cases a with
    | none =>
      obtain ⟨_, rfl⟩ := ha rfl
      clear hv ha hO h0 hn
      go_enter Try.func16, Try.ntmps16
      go_wp2_with (at_builtin; refine wpList_append_own_none rfl _ _ 22 rfl w.heap.size 48 i0 2 Try.underlying22 hi hz1 (.slice none 0 0) 0 [] rfl HO.out rfl ?_)
      go_ret
      exact ⟨_, rfl, HOO.out, Below.refl _ _⟩
    | some ad =>
      clear hv ha hO h0 hn
      go_enter Try.func16, Try.ntmps16
      go_wp2_with (at_builtin; refine wpList_append_own _ rfl _ _ 22 rfl w.heap.size 48 i0 (.agg #[.int .i64 0, .int .i64 0]) 2 16 Try.underlying22 hi hz0 hz1 hz2 rfl (by decide) (.slice none 0 0) 0 [] rfl HO.out ad 0 cap [] rfl rfl (fun j u hj => by simp at hj) (fun u hu => by simp at hu) (by decide) (by decide) (Nat.le_refl _) ?_; intro v1 w1 ho1 hg1 _)
      have B1 : Hid (Below w.heap.size w w1) := Lib.hid ((Below.refl w.heap.size w).grown hg1 (Nat.le_refl _) (fun q hq => by simp [Value.ownBlock] at hq))
      go_wp2_with fail
      go_ret
      exact ⟨_, rfl, ho1, B1.out⟩
  · obtain ⟨b, off, he⟩ := hv.addr (by omega)
    cases he
    have HN := Lib.hid (rv_news hv)
    have HL : Hid ((rw2 L).length = L.length * 2) := Lib.hid (rw2_len L)
    have H1 := Lib.hid (rw2_one L)
    obtain ⟨V, hV⟩ : ∃ V, V = rw2 L := ⟨_, rfl⟩
    rw [← hV] at HN HL H1
    replace hV := Lib.hid hV
    obtain ⟨n, hn2⟩ : ∃ n, n = L.length := ⟨_, rfl⟩
    rw [← hn2] at hn HL ⊢
    have HNL := Lib.hid hn2
    clear hv ha h0 hn2
    go_enter Try.func16, Try.ntmps16
    go_wp2_with (at_builtin; refine wpList_append_own _ rfl _ _ 22 rfl w.heap.size 48 i0 (.agg #[.int .i64 0, .int .i64 0]) 2 16 Try.underlying22 hi hz0 hz1 hz2 rfl (by decide) (.slice none 0 0) 0 [] rfl HO.out ⟨b, off, none⟩ n cap V rfl HL.out HN.out H1.out (by unfold maxLen; omega) (by omega) (Nat.le_refl _) ?_; intro v1 w1 ho1 hg1 _)
    have B1 : Hid (Below w.heap.size w w1) := Lib.hid ((Below.refl w.heap.size w).grown hg1 (Nat.le_refl _) (fun q hq => by simp [Value.ownBlock] at hq))
    have O1 : Hid (Own w1 w.heap.size v1 L) := Lib.hid (by unfold Own; rw [← hV.out, ← HNL.out]; simpa using ho1)
    clear ho1 hg1
    go_wp2_with fail
    go_ret
    exact ⟨_, rfl, O1.out, B1.out⟩
theorem neq_rng (a b c d : Int) (w : World) : (binOp .neq 48 (.agg #[.int .i64 a, .int .i64 b]) (.agg #[.int .i64 c, .int .i64 d])).run Try.prog w = .ok (.bool !(decide (((a, b) : Rg) = (c, d)))) w := by
  have a6 := Try.isAgg3
  have z6 := Try.sizeOf3
  have u6 := Try.underlying3
  have hS : Try.prog.underlying 48 = some (.struct (Try.prog.fieldsOf 48)) := by kernel_rfl
  have hp : Try.prog.stoodInHeld 48 = false := by kernel_rfl
  rw [run_neq_struct, show (10000 : Nat) = 9999 + 1 from rfl, run_equalIn_agg w 9999 48 _ _ hS hp]
  simp only [Program.fieldsOf, Try.underlying48]
  go_simp
  by_cases h1 : a = c <;> by_cases h2 : b = d <;> simp [h1, h2]
set_option maxRecDepth 20000 in
theorem rsame_any (a1 a2 : Option Addr) (c1 c2 : Nat) (L M : List Rg) (w : World) (hv1 : RV w a1 L) (hv2 : RV w a2 M) (hn : L.length ≤ maxLen) : Calls Try.prog 23 #[.slice a1 L.length c1, .slice a2 M.length c2] w fun r w' => r = .returned (.bool (decide (L = M))) ∧ Below w.heap.size w w' := by
  unfold maxLen at hn
  obtain ⟨x, hx⟩ : ∃ x, x = decide (L = M) := ⟨_, rfl⟩
  rw [← hx]
  replace hx := Lib.hid hx
  have HV1 := Lib.hid hv1
  have HV2 := Lib.hid hv2
  obtain ⟨n1, hn1⟩ : ∃ n, n = L.length := ⟨_, rfl⟩
  obtain ⟨n2, hn2⟩ : ∃ n, n = M.length := ⟨_, rfl⟩
  rw [← hn1, ← hn2]
  rw [← hn1] at hn
  have HN1 := Lib.hid hn1
  have HN2 := Lib.hid hn2
  clear hv1 hv2 hn1 hn2
  by_cases he : n1 = n2
  · subst he
    have hn' : (n1 : Int) ≤ 9223372036854775807 := by omega
    have hne : ((n1 : Int) != n1) = false := by simp
    go_enter Try.func23, Try.ntmps23
    go_wp2_with fail
    go_loopw [5] (fun v5 wr => ∃ i : Nat, i ≤ n1 ∧ v5 = .int .i64 i ∧ Hid (∀ j, j < i → gR L j = gR M j) ∧ Hid (Below w.heap.size w wr)) (fun v5 _ => n1 - (intOf v5).toNat)
    case atStart => exact ⟨0, Nat.zero_le _, rfl, Lib.hid (fun j hj => by omega), Lib.hid (Below.refl _ _)⟩
    case round =>
      obtain ⟨i, hi, rfl, HN, HB⟩ := hrel
      by_cases h1 : i < n1
      · obtain ⟨b, off, rfl⟩ := HV1.out.addr (by rw [← HN1.out]; omega)
        obtain ⟨b', off', rfl⟩ := HV2.out.addr (by rw [← HN2.out]; omega)
        obtain ⟨_, d0, d1⟩ := (HV1.out.below HB.out).at_ (i := i) (by rw [← HN1.out]; exact h1)
        obtain ⟨_, e0, e1⟩ := (HV2.out.below HB.out).at_ (i := i) (by rw [← HN2.out]; exact h1)
        have hg1 : (i : Int) < n1 := by omega
        have hg0 : (0 : Int) ≤ i := by omega
        obtain ⟨p, hp⟩ : ∃ c, c = (gR L i).1 := ⟨_, rfl⟩
        obtain ⟨q, hq'⟩ : ∃ c, c = (gR L i).2 := ⟨_, rfl⟩
        obtain ⟨r, hr⟩ : ∃ c, c = (gR M i).1 := ⟨_, rfl⟩
        obtain ⟨s, hs'⟩ : ∃ c, c = (gR M i).2 := ⟨_, rfl⟩
        rw [← hp] at d0
        rw [← hq'] at d1
        rw [← hr] at e0
        rw [← hs'] at e1
        have HP : Hid (gR L i = (p, q)) := Lib.hid (by rw [hp, hq'])
        have HQ : Hid (gR M i = (r, s)) := Lib.hid (by rw [hr, hs'])
        have hq := neq_rng p q r s
        have hgd : ∀ (op : BinOp) (x y : Operand) (xs ys : Array Value) (W : World), (eqGuard op 48 x y (.agg xs) (.agg ys)).run Try.prog W = .ok () W := fun op x y xs ys W => run_eqGuard_agg W op _ x y xs ys (by kernel_rfl)
        by_cases hcd : ((p, q) : Rg) = (r, s)
        · have HN2' : Hid (∀ j, j < i + 1 → gR L j = gR M j) := Lib.hid (upto_next HN.out (by rw [HP.out, HQ.out]; exact hcd))
          rw [decide_eq_true hcd] at hq
          clear HN hp hq' hr hs' hcd
          go_wp2_with fail
          go_quiet (fail)
          go_wp2_with fail
          go_roundw
          case rel => exact ⟨i + 1, by omega, by go_num, HN2', Lib.hid ⟨HB.out.os, HB.out.tape, HB.out.output, HB.out.size, HB.out.block⟩⟩
          case measure => simp [intOf]; omega
        · have HX : Hid (x = false) := Lib.hid (by
            rw [hx.out]
            refine decide_eq_false (fun e => hcd ?_)
            rw [← HP.out, ← HQ.out, e])
          rw [decide_eq_false hcd] at hq
          clear HN hp hq' hr hs' hcd
          go_wp2_with fail
          go_quiet (fail)
          go_wp2_with fail
          go_ret
          exact ⟨ret_bool HX.out.symm, ⟨HB.out.os, HB.out.tape, HB.out.output, HB.out.size, HB.out.block⟩⟩
      · have e1 : i = n1 := by omega
        subst e1
        have HX : Hid (x = true) := Lib.hid (by rw [hx.out]; exact decide_eq_true (gR_ext (by rw [← HN1.out, ← HN2.out]) (fun j hj => HN.out j (by rw [HN1.out]; exact hj))))
        have hg1 : ¬ (i : Int) < i := by omega
        clear HN
        go_wp2_with fail
        go_ret
        exact ⟨ret_bool HX.out.symm, HB.out⟩
  · have HX : Hid (x = false) := Lib.hid (by rw [hx.out]; exact decide_eq_false (fun e => he (by rw [HN1.out, HN2.out, e])))
    have hne : ((n1 : Int) != n2) = true := by simp; omega
    go_enter Try.func23, Try.ntmps23
    go_wp2_with fail
    go_ret
    exact ⟨ret_bool HX.out.symm, Below.refl _ _⟩
end Go.Proofs.Ytlngdohkoeognaa
