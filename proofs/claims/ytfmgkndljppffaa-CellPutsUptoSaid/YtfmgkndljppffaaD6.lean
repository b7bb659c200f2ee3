/- Layer 3: Twin, Sub. -/
import Derived.Test.YtfmgkndljppffaaD5
import Derived.Laws.AppendOwnNone
namespace Go.Proofs.Ytfmgkndljppffaa
open Go.RowKit Go.Maps
theorem cv_news {w : World} {b off n : Nat} {g : Nat → CR} (h : CV w (some ⟨b, off, none⟩) n g) : ∀ j u, (rw5 (cut g 0 n))[j]? = some u → w.cell? ((⟨b, off, none⟩ : Addr).add j) = some u := by
  intro j u hj
  have hlt := (List.getElem?_eq_some_iff.1 hj).1
  rw [rw5_len, cut_len, Nat.sub_zero] at hlt
  have hi : j / 5 < n := by omega
  obtain ⟨_, c0, c1, c2, c3, c4⟩ := h.at_ hi
  obtain ⟨a0, a1, a2, a3, a4⟩ := rw5_at (cut g 0 n) (j / 5) (by rw [cut_len]; omega)
  have eg : gl (cut g 0 n) (j / 5) = g (j / 5) := by rw [cut_at g 0 n _ (by omega), Nat.zero_add]
  rw [eg] at a0 a1 a2 a3 a4
  rw [Addr.add_lit]
  show w.cell? ⟨b, off + j, none⟩ = some u
  rcases (by omega : j = j / 5 * 5 ∨ j = j / 5 * 5 + 1 ∨ j = j / 5 * 5 + 2 ∨ j = j / 5 * 5 + 3 ∨ j = j / 5 * 5 + 4) with e | e | e | e | e
  · rw [e] at hj ⊢; rw [a0] at hj; rw [c0]; exact hj
  · rw [e] at hj ⊢; rw [a1] at hj; rw [← Nat.add_assoc, c1]; exact hj
  · rw [e] at hj ⊢; rw [a2] at hj; rw [← Nat.add_assoc, c2]; exact hj
  · rw [e] at hj ⊢; rw [a3] at hj; rw [← Nat.add_assoc, c3]; exact hj
  · rw [e] at hj ⊢; rw [a4] at hj; rw [← Nat.add_assoc, c4]; exact hj
theorem rw5_one (L : List CR) : ∀ u ∈ rw5 L, u.oneCell' = true := by
  intro u hu
  unfold rw5 at hu
  obtain ⟨c, _, hc⟩ := List.mem_flatMap.1 hu
  simp at hc
  rcases hc with rfl | rfl | rfl | rfl | rfl <;> rfl
/-- Twin, whichever of the two. -/
def TwinPost (w : World) (n : Nat) (g : Nat → CR) (r : Ending) (w' : World) : Prop := ∃ v, r = .returned v ∧ w'.ownsRow w.heap.size 32 5 v n (rw5 (cut g 0 n)) ∧ Below w.heap.size w w'
set_option maxRecDepth 20000 in
theorem twin_any (a : Option Addr) (n cap : Nat) (g : Nat → CR) (w : World) (hv : CV w a n g) (hn : n ≤ 1000000) (ha : a = none → n = 0 ∧ cap = 0) : Calls Try.prog 26 #[.slice a n cap] w (TwinPost w n g) := by
  obtain ⟨i0, hi, hz0, hz1, hz2⟩ := infoC
  have HO := Lib.hid (World.ownsRow_nil w w.heap.size 32 5)
  cases a with
  | none =>
    obtain ⟨rfl, rfl⟩ := ha rfl
    clear hv ha
    go_enter Try.func26, Try.ntmps26
    go_wp2_with (at_builtin; refine wpList_append_own_none rfl _ _ 26 rfl w.heap.size 32 i0 5 Try.underlying26 hi hz1 (.slice none 0 0) 0 [] rfl HO.out rfl ?_)
    go_ret
    exact ⟨_, rfl, HO.out, Below.refl _ _⟩
  | some ad =>
    by_cases h0 : n = 0
    · subst h0
      clear hv ha
      go_enter Try.func26, Try.ntmps26
      go_wp2_with (at_builtin; refine wpList_append_own _ rfl _ _ 26 rfl w.heap.size 32 i0 (.agg #[.int .u8 0, .string ⟨#[]⟩, .string ⟨#[]⟩, .int .i64 0, .int .i64 0]) 5 56 Try.underlying26 hi hz0 hz1 hz2 rfl (by decide) (.slice none 0 0) 0 [] rfl HO.out ad 0 cap [] rfl rfl (fun j u hj => by simp at hj) (fun u hu => by simp at hu) (by decide) (by decide) (Nat.le_refl _) ?_; intro v1 w1 ho1 hg1 _)
      have B1 : Hid (Below w.heap.size w w1) := Lib.hid ((Below.refl w.heap.size w).grown hg1 (Nat.le_refl _) (fun q hq => by simp [Value.ownBlock] at hq))
      go_wp2_with fail
      go_ret
      exact ⟨_, rfl, ho1, B1.out⟩
    · obtain ⟨b, off, he⟩ := hv.addr (by omega)
      cases he
      have HN := Lib.hid (cv_news hv)
      have HL : Hid ((rw5 (cut g 0 n)).length = n * 5) := Lib.hid (by rw [rw5_len, cut_len, Nat.sub_zero])
      have H1 := Lib.hid (rw5_one (cut g 0 n))
      obtain ⟨L, hL⟩ : ∃ L, L = rw5 (cut g 0 n) := ⟨_, rfl⟩
      rw [← hL] at HN HL H1
      replace hL := Lib.hid hL
      clear hv ha
      go_enter Try.func26, Try.ntmps26
      go_wp2_with (at_builtin; refine wpList_append_own _ rfl _ _ 26 rfl w.heap.size 32 i0 (.agg #[.int .u8 0, .string ⟨#[]⟩, .string ⟨#[]⟩, .int .i64 0, .int .i64 0]) 5 56 Try.underlying26 hi hz0 hz1 hz2 rfl (by decide) (.slice none 0 0) 0 [] rfl HO.out ⟨b, off, none⟩ n cap L rfl HL.out HN.out H1.out (by unfold maxLen; omega) (by omega) (Nat.le_refl _) ?_; intro v1 w1 ho1 hg1 _)
      have B1 : Hid (Below w.heap.size w w1) := Lib.hid ((Below.refl w.heap.size w).grown hg1 (Nat.le_refl _) (fun q hq => by simp [Value.ownBlock] at hq))
      have O1 : Hid (w1.ownsRow w.heap.size 32 5 v1 n (rw5 (cut g 0 n))) := Lib.hid (by rw [← hL.out]; simpa using ho1)
      clear ho1 hg1
      go_wp2_with fail
      go_ret
      exact ⟨_, rfl, O1.out, B1.out⟩
set_option maxRecDepth 20000 in
theorem rtwin_any (a : Option Addr) (n cap : Nat) (g : Nat → CR) (w : World) (hv : CV w a n g) (hn : n ≤ 1000000) (ha : a = none → n = 0 ∧ cap = 0) : Calls Try.prog 14 #[.slice a n cap] w (TwinPost w n g) := by
  obtain ⟨i0, hi, hz0, hz1, hz2⟩ := infoC
  have HO := Lib.hid (World.ownsRow_nil w w.heap.size 32 5)
  cases a with
  | none =>
    obtain ⟨rfl, rfl⟩ := ha rfl
    clear hv ha
    go_enter Try.func14, Try.ntmps14
    go_wp2_with (at_builtin; refine wpList_append_own_none rfl _ _ 26 rfl w.heap.size 32 i0 5 Try.underlying26 hi hz1 (.slice none 0 0) 0 [] rfl HO.out rfl ?_)
    go_ret
    exact ⟨_, rfl, HO.out, Below.refl _ _⟩
  | some ad =>
    by_cases h0 : n = 0
    · subst h0
      clear hv ha
      go_enter Try.func14, Try.ntmps14
      go_wp2_with (at_builtin; refine wpList_append_own _ rfl _ _ 26 rfl w.heap.size 32 i0 (.agg #[.int .u8 0, .string ⟨#[]⟩, .string ⟨#[]⟩, .int .i64 0, .int .i64 0]) 5 56 Try.underlying26 hi hz0 hz1 hz2 rfl (by decide) (.slice none 0 0) 0 [] rfl HO.out ad 0 cap [] rfl rfl (fun j u hj => by simp at hj) (fun u hu => by simp at hu) (by decide) (by decide) (Nat.le_refl _) ?_; intro v1 w1 ho1 hg1 _)
      have B1 : Hid (Below w.heap.size w w1) := Lib.hid ((Below.refl w.heap.size w).grown hg1 (Nat.le_refl _) (fun q hq => by simp [Value.ownBlock] at hq))
      go_wp2_with fail
      go_ret
      exact ⟨_, rfl, ho1, B1.out⟩
    · obtain ⟨b, off, he⟩ := hv.addr (by omega)
      cases he
      have HN := Lib.hid (cv_news hv)
      have HL : Hid ((rw5 (cut g 0 n)).length = n * 5) := Lib.hid (by rw [rw5_len, cut_len, Nat.sub_zero])
      have H1 := Lib.hid (rw5_one (cut g 0 n))
      obtain ⟨L, hL⟩ : ∃ L, L = rw5 (cut g 0 n) := ⟨_, rfl⟩
      rw [← hL] at HN HL H1
      replace hL := Lib.hid hL
      clear hv ha
      go_enter Try.func14, Try.ntmps14
      go_wp2_with (at_builtin; refine wpList_append_own _ rfl _ _ 26 rfl w.heap.size 32 i0 (.agg #[.int .u8 0, .string ⟨#[]⟩, .string ⟨#[]⟩, .int .i64 0, .int .i64 0]) 5 56 Try.underlying26 hi hz0 hz1 hz2 rfl (by decide) (.slice none 0 0) 0 [] rfl HO.out ⟨b, off, none⟩ n cap L rfl HL.out HN.out H1.out (by unfold maxLen; omega) (by omega) (Nat.le_refl _) ?_; intro v1 w1 ho1 hg1 _)
      have B1 : Hid (Below w.heap.size w w1) := Lib.hid ((Below.refl w.heap.size w).grown hg1 (Nat.le_refl _) (fun q hq => by simp [Value.ownBlock] at hq))
      have O1 : Hid (w1.ownsRow w.heap.size 32 5 v1 n (rw5 (cut g 0 n))) := Lib.hid (by rw [← hL.out]; simpa using ho1)
      clear ho1 hg1
      go_wp2_with fail
      go_ret
      exact ⟨_, rfl, O1.out, B1.out⟩
end Go.Proofs.Ytfmgkndljppffaa
