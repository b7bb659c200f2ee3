/- Layer 6: slices.Clone of ranges; no ranges sorted; the code's union. -/
import Derived.Test.YtlngdohkoeognaaBI
namespace Go.Proofs.Ytlngdohkoeognaa
open Go.RowKit Go.Maps
set_option maxRecDepth 20000 in
theorem clone_any (a : Option Addr) (cap : Nat) (L : List Rg) (w : World) (hv : RV w a L) (hn : L.length ≤ 1000000) (ha : a = none → L.length = 0 ∧ cap = 0) : Calls Try.prog 52 #[.slice a L.length cap] w (ConcatPost w L) := by
  obtain ⟨i0, hi, hz0, hz1, hz2⟩ := infoR
  have q22 : ∀ (w : World) (a : Option Addr) (n c n' c' : Nat), (binOp .eql 22 (.slice a n c) (.slice none n' c')).run Try.prog w = .ok (.bool a.isNone) w := fun w a n c n' c' => Lib.run_eql_slice_nil w _ _ a n c n' c' Try.underlying22
  cases a with
  | none =>
    obtain ⟨h0, rfl⟩ := ha rfl
    have e0 : L = [] := List.length_eq_zero_iff.1 h0
    subst e0
    have hO : Own w w.heap.size (.slice none 0 0) [] := Own.nil _ _
    have HOO := Lib.hid hO
    rw [show ([] : List Rg).length = 0 from rfl]
    clear hv ha hO h0 hn
    go_enter Try.func52, Try.ntmps52
    go_wp2_with fail
    go_ret
    exact ⟨_, rfl, HOO.out, Below.refl _ _⟩
  | some ad =>
    have HO : Hid ((w.alloc (.cells #[] 48)).ownsRow w.heap.size 48 2 (.slice (some ⟨w.heap.size, 0, none⟩) 0 0) 0 []) := Lib.hid (World.ownsRow_lit (base := w.heap.size) (e := 48) (size := 2) w #[] 0 (Nat.le_refl _) (by decide) rfl)
    have HN : Hid (∀ j u, (rw2 L)[j]? = some u → (w.alloc (.cells #[] 48)).cell? (ad.add j) = some u) := Lib.hid (rv_news' (hv.below ((Below.refl _ w).alloc (Nat.le_refl _) _)))
    have HL : Hid ((rw2 L).length = L.length * 2) := Lib.hid (rw2_len L)
    have H1 := Lib.hid (rw2_one L)
    obtain ⟨V, hV⟩ : ∃ V, V = rw2 L := ⟨_, rfl⟩
    rw [← hV] at HN HL H1
    replace hV := Lib.hid hV
    obtain ⟨n, hn2⟩ : ∃ n, n = L.length := ⟨_, rfl⟩
    rw [← hn2] at hn HL ⊢
    have HNL := Lib.hid hn2
    have HB0 : Hid (Below w.heap.size w (w.alloc (.cells #[] 48))) := Lib.hid ((Below.refl _ w).alloc (Nat.le_refl _) _)
    have hb1 : 0 + n ≤ maxLen := by unfold maxLen; omega
    have hb2 : (0 + n) * 16 ≤ 140737488355328 := by omega
    clear hv ha hn2
    go_enter Try.func52, Try.ntmps52
    go_wp2_with (at_builtin; refine wpList_append_own _ rfl _ _ 22 rfl w.heap.size 48 i0 (.agg #[.int .i64 0, .int .i64 0]) 2 16 Try.underlying22 hi hz0 hz1 hz2 rfl (by decide) (.slice (some ⟨w.heap.size, 0, none⟩) 0 0) 0 [] rfl HO.out ad n cap V rfl HL.out HN.out H1.out hb1 hb2 (by simp) ?_; intro v1 w1 ho1 hg1 _)
    have B1 : Hid (Below w.heap.size w w1) := Lib.hid (HB0.out.grown hg1 (by simp) (fun q hq => (HO.out.lt q hq).1))
    have O1 : Hid (Own w1 w.heap.size v1 L) := Lib.hid (by unfold Own; rw [← hV.out, ← HNL.out]; simpa using ho1)
    clear ho1 hg1
    go_wp2_with fail
    go_ret
    exact ⟨_, rfl, O1.out, B1.out⟩
theorem insnil (fv : Value) (w : World) : Calls Try.prog 82 #[.slice none 0 0, .int .i64 0, .int .i64 0, fv] w fun e w' => e = .returned (.tuple #[]) ∧ w' = w := by
  go_enter Try.func82, Try.ntmps82
  go_wp2_with fail
  refine wp_loop_rounds 1 ?_
  rw [rounds_succ]
  go_wp2_with fail
  go_end0
  exact ⟨rfl, rfl⟩
theorem pdqnil (n : Int) (fv : Value) (w : World) : Calls Try.prog 73 #[.slice none 0 0, .int .i64 0, .int .i64 0, .int .i64 n, fv] w fun e w' => e = .returned (.tuple #[]) ∧ w' = w := by
  have hc := fun W => insnil fv W
  go_enter Try.func73, Try.ntmps73
  go_wp2_with fail
  refine wp_loop_rounds 1 ?_
  rw [rounds_succ]
  go_wp2_with (go_at_call 82; refine (hc _).mono ?_; rintro e w' ⟨rfl, rfl⟩)
  (try simp only [Exit.inBlock, Exit.then])
  refine bodyPost_ret (results_none rfl _ _ _) rfl ?_
  exact ⟨rfl, rfl⟩
theorem sort_nil (w : World) : Calls Try.prog 53 #[.slice none 0 0, .func (.func 54) #[] #[]] w fun e w' => e = .returned (.tuple #[]) ∧ w' = w := by
  have hl : ∀ W, Calls Try.prog 51 #[.int .u64 0] W fun e w' => e = .returned (.int .i64 ((Lib.bitLen 0 : Nat) : Int)) ∧ w' = W := fun W => by
    have h := Any.bits_Len (SlLaysF0.n15.bits (P := Try.prog) (ρ := Try.sortR_ren) { Try.sortR with }) 0 W (by omega) (by omega)
    exact h
  have hc := fun n W => pdqnil n (.func (.func 54) #[] #[]) W
  go_enter Try.func53, Try.ntmps53
  go_wp2_with (first | (go_at_call 51; refine (hl _).mono ?_; rintro e w' ⟨rfl, rfl⟩) | (go_at_call 73; refine (hc _ _).mono ?_; rintro e w' ⟨rfl, rfl⟩))
  go_end0
  exact ⟨rfl, rfl⟩
/-- What union answers: a set with just the numbers of the ranges. -/
def UniPost (w : World) (L : List Rg) (e : Ending) (w' : World) : Prop := ∃ v M, e = .returned v ∧ Own w' w.heap.size v M ∧ Below w.heap.size w w' ∧ Cn 0 M ∧ (∀ n, hs M n = hs L n) ∧ M.length ≤ L.length
set_option maxRecDepth 20000 in
theorem union_any (a : Option Addr) (cap : Nat) (L : List Rg) (w : World) (hv : RV w a L) (hok : ∀ r ∈ L, okR r = true) (hn : L.length ≤ 100000) (ha : a = none → L.length = 0 ∧ cap = 0) :
    Calls Try.prog 39 #[.slice a L.length cap] w (UniPost w L) := by
  have HC := Lib.hid (clone_any a cap L w hv (by omega) ha)
  have HOK := Lib.hid hok
  have HN := Lib.hid hn
  obtain ⟨n, hn2⟩ : ∃ n, n = L.length := ⟨_, rfl⟩
  rw [← hn2] at HC ⊢
  have HNL := Lib.hid hn2
  clear hv hok hn ha hn2
  go_enter Try.func39, Try.ntmps39
  go_wp2_with fail
  refine HC.out.mono ?_
  rintro e w1 ⟨v1, rfl, o1, b1⟩
  have O1 := Lib.hid o1
  have B1 := Lib.hid b1
  rcases o1.2 with ⟨rfl, hz⟩ | ⟨q, cap1, cur, rfl, _⟩
  · have e0 : L = [] := List.length_eq_zero_iff.1 hz
    subst e0
    clear o1 b1 hz
    go_wp2_with fail
    refine (sort_nil _).mono ?_
    rintro e w2 ⟨rfl, rfl⟩
    go_wp2_with fail
    refine (fold56_any (w0 := w) none 0 [] _ (RV.nil _ _) B1.out.size B1.out (by simp) (by simp) (by simp)).mono ?_
    rintro e w3 ⟨v3, rfl, o3, b3⟩
    have O3 : Hid (Own w3 w.heap.size v3 []) := Lib.hid (Own.base o3 B1.out.size)
    have B3 : Hid (Below w.heap.size w w3) := Lib.hid (B1.out.trans (b3.mono B1.out.size))
    clear o3 b3
    go_wp2_with fail
    go_ret
    exact ⟨_, [], rfl, O3.out, B3.out, trivial, fun _ => rfl, by simp⟩
  · have HS := Lib.hid (sortr_any (w0 := w) q cap1 L w1 b1 o1 (by have := HN.out; omega))
    clear o1 b1
    go_wp2_with fail
    refine HS.out.mono ?_
    rintro e w2 ⟨rfl, S, p1, p2, v2, b2⟩
    have hSl : S.length = L.length := p1.length_eq
    have hSok : ∀ r ∈ S, okR r = true := fun r hr => HOK.out r (p1.mem_iff.1 hr)
    have HF := Lib.hid (fold56_any (w0 := w) (some ⟨q, 0, none⟩) cap1 S w2 v2 b2.size b2 hSok p2 (by rw [hSl]; exact HN.out))
    have HU : Hid (Cn 0 (uniL S) ∧ (∀ n, hs (uniL S) n = hs L n) ∧ (uniL S).length ≤ L.length) := Lib.hid (by
      obtain ⟨k1, k2⟩ := uni_ok hSok p2
      exact ⟨k1, fun n => by rw [k2, hs_perm p1], by rw [← p1.length_eq]; exact uni_len S⟩)
    rw [hSl] at HF
    have B2 := Lib.hid b2
    clear p1 p2 v2 b2 hSl hSok
    go_wp2_with fail
    refine HF.out.mono ?_
    rintro e w3 ⟨v3, rfl, o3, b3⟩
    have O3 : Hid (Own w3 w.heap.size v3 (uniL S)) := Lib.hid (Own.base o3 B2.out.size)
    have B3 : Hid (Below w.heap.size w w3) := Lib.hid (B2.out.trans (b3.mono B2.out.size))
    clear o3 b3
    go_wp2_with fail
    go_ret
    exact ⟨_, _, rfl, O3.out, B3.out, HU.out.1, HU.out.2.1, HU.out.2.2⟩
end Go.Proofs.Ytlngdohkoeognaa
