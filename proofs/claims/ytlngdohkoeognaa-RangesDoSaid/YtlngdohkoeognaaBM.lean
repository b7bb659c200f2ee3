/- Layer 6: the answers of Norm, Not, Or, And, in plain words; capped, Norm, Not. -/
import Derived.Test.YtlngdohkoeognaaBJ
import Derived.Test.YtlngdohkoeognaaBL
namespace Go.Proofs.Ytlngdohkoeognaa
open Go.RowKit Go.Maps
def uniC (L : List Rg) : List Rg := madeL L (fun n => hs L n)
def notC (L : List Rg) : List Rg := madeL L (fun n => !hs L n)
def orC (A B : List Rg) : List Rg := madeL (A ++ B) (fun n => hs A n || hs B n)
def andC (A B : List Rg) : List Rg := madeL (A ++ B) (fun n => hs A n && hs B n)
theorem in_le {L : List Rg} (hok : ∀ r ∈ L, okR r = true) (n : Int) : hs L n = (decide (0 ≤ n) && decide (n ≤ 1114111) && hs L n) := by
  cases h : hs L n with
  | false => simp
  | true =>
    obtain ⟨r, hr, h1, h2⟩ := hs_iff.1 h
    have := okR_iff.1 (hok r hr)
    rw [decide_eq_true (by omega), decide_eq_true (by omega)]; rfl
theorem uniC_ok {L : List Rg} (hok : ∀ r ∈ L, okR r = true) : Cn 0 (uniC L) ∧ ∀ n, hs (uniC L) n = hs L n := by
  obtain ⟨k1, k2⟩ := made_ok L hok (fun n => hs L n) (fun x y h1 h2 => hs_still h1 h2)
  exact ⟨k1, fun n => (k2 n).trans (in_le hok n).symm⟩
theorem notC_ok {L : List Rg} (hok : ∀ r ∈ L, okR r = true) : Cn 0 (notC L) ∧ ∀ n, hs (notC L) n = (decide (0 ≤ n) && decide (n ≤ 1114111) && !hs L n) :=
  made_ok L hok (fun n => !hs L n) (fun x y h1 h2 => by show (!hs L y) = !hs L x; rw [hs_still h1 h2])
theorem app_ok {A B : List Rg} (ha : ∀ r ∈ A, okR r = true) (hb : ∀ r ∈ B, okR r = true) : ∀ r ∈ A ++ B, okR r = true := fun r hr => by
  rcases List.mem_append.1 hr with h | h
  · exact ha r h
  · exact hb r h
theorem orC_ok {A B : List Rg} (ha : ∀ r ∈ A, okR r = true) (hb : ∀ r ∈ B, okR r = true) : Cn 0 (orC A B) ∧ ∀ n, hs (orC A B) n = (hs A n || hs B n) := by
  obtain ⟨k1, k2⟩ := made_ok (A ++ B) (app_ok ha hb) (fun n => hs A n || hs B n) (fun x y h1 h2 => by
    show (hs A y || hs B y) = (hs A x || hs B x)
    rw [hs_still h1 (fun r hr => h2 r (List.mem_append.2 (.inl hr))), hs_still h1 (fun r hr => h2 r (List.mem_append.2 (.inr hr)))])
  refine ⟨k1, fun n => (k2 n).trans ?_⟩
  rw [in_le ha n, in_le hb n]
  cases decide (0 ≤ n) <;> cases decide (n ≤ 1114111) <;> simp
theorem andC_ok {A B : List Rg} (ha : ∀ r ∈ A, okR r = true) (hb : ∀ r ∈ B, okR r = true) : Cn 0 (andC A B) ∧ ∀ n, hs (andC A B) n = (hs A n && hs B n) := by
  obtain ⟨k1, k2⟩ := made_ok (A ++ B) (app_ok ha hb) (fun n => hs A n && hs B n) (fun x y h1 h2 => by
    show (hs A y && hs B y) = (hs A x && hs B x)
    rw [hs_still h1 (fun r hr => h2 r (List.mem_append.2 (.inl hr))), hs_still h1 (fun r hr => h2 r (List.mem_append.2 (.inr hr)))])
  refine ⟨k1, fun n => (k2 n).trans ?_⟩
  rw [in_le ha n, in_le hb n]
  cases decide (0 ≤ n) <;> cases decide (n ≤ 1114111) <;> simp
/-- What is turned by the gaps is the document's other set. -/
theorem gap_notC {L : List Rg} (hL : Cn 0 L) : gapL 0 L = notC L := by
  obtain ⟨k1, k2⟩ := notC_ok (cn_ok (Int.le_refl _) hL)
  obtain ⟨g1, g2, _⟩ := gap_ok L 0 0 hL (Int.le_refl _) (by omega)
  exact Cn.one g1 k1 (fun n => by rw [g2, k2])
theorem cn_uniC {L M : List Rg} (hok : ∀ r ∈ L, okR r = true) (hM : Cn 0 M) (h : ∀ n, hs M n = hs L n) : M = uniC L := by
  obtain ⟨k1, k2⟩ := uniC_ok hok
  exact Cn.one hM k1 (fun n => by rw [h, k2])
theorem cn_orC {A B M : List Rg} (ha : ∀ r ∈ A, okR r = true) (hb : ∀ r ∈ B, okR r = true) (hM : Cn 0 M) (h : ∀ n, hs M n = hs (A ++ B) n) : M = orC A B := by
  obtain ⟨k1, k2⟩ := orC_ok ha hb
  exact Cn.one hM k1 (fun n => by rw [h, k2, hs_app])
theorem cn_andC {A B M : List Rg} (hA : Cn 0 A) (hB : Cn 0 B) (hM : Cn 0 M) (h : ∀ n, hs M n = hs (gapL 0 A ++ gapL 0 B) n) : gapL 0 M = andC A B := by
  have ha := cn_ok (Int.le_refl _) hA
  have hb := cn_ok (Int.le_refl _) hB
  obtain ⟨k1, k2⟩ := andC_ok ha hb
  obtain ⟨g1, g2, _⟩ := gap_ok M 0 0 hM (Int.le_refl _) (by omega)
  obtain ⟨a1, a2, _⟩ := gap_ok A 0 0 hA (Int.le_refl _) (by omega)
  obtain ⟨b1, b2, _⟩ := gap_ok B 0 0 hB (Int.le_refl _) (by omega)
  refine Cn.one g1 k1 (fun n => ?_)
  rw [g2, h, hs_app, a2, b2, k2, in_le ha n, in_le hb n]
  cases decide (0 ≤ n) <;> cases decide (n ≤ 1114111) <;> cases hs A n <;> cases hs B n <;> rfl
def capP (M : List Rg) : List Rg × Int := if 256 < M.length then ([], 4) else (M, 0)
def normP (L : List Rg) : List Rg × Int := if 256 < L.length then ([], 4) else if L.all okR then (uniC L, 0) else ([], 8)
def notP (L : List Rg) : List Rg × Int := if ckL L then capP (notC L) else ([], 8)
def orP (A B : List Rg) : List Rg × Int := if ckL A && ckL B then capP (orC A B) else ([], 8)
def andP (A B : List Rg) : List Rg × Int := if ckL A && ckL B then capP (andC A B) else ([], 8)
/-- Ranges that came from somewhere, as a slice. -/
def SlR (w : World) (v : Value) (L : List Rg) : Prop := ∃ a c, v = .slice a L.length c ∧ RV w a L ∧ L.length ≤ c ∧ c ≤ maxLen ∧ (a = none → L.length = 0 ∧ c = 0)
theorem SlR.below {w w' : World} {v : Value} {L : List Rg} (h : SlR w v L) (k : Below w.heap.size w w') : SlR w' v L := by
  obtain ⟨a, c, e, h1, h2⟩ := h
  exact ⟨a, c, e, h1.below k, h2⟩
theorem Own.slr {w : World} {B : Nat} {v : Value} {L : List Rg} (h : Own w B v L) : SlR w v L := by
  rcases h.2 with ⟨rfl, hn⟩ | ⟨q, cap, cur, rfl, hg, hgg, h1, h2, h3, h4⟩
  · have : L = [] := by cases L with | nil => rfl | cons _ _ => simp at hn
    subst this
    exact ⟨none, 0, rfl, RV.nil _ _, Nat.le_refl _, Nat.zero_le _, fun _ => ⟨rfl, rfl⟩⟩
  · exact ⟨some ⟨q, 0, none⟩, cap, rfl, rv_of (Array.getElem?_eq_some_iff.1 hgg).1 (fun j hj => h.cellAt j hj), h1, h2, fun e => by cases e⟩
/-- Ranges of the call's own, and an error. -/
def TwoPost (w : World) (R : List Rg × Int) (e : Ending) (w' : World) : Prop := ∃ v, e = .returned (.tuple #[v, .int .i64 R.2]) ∧ Own w' w.heap.size v R.1 ∧ Below w.heap.size w w'
theorem capped_any {w0 : World} (v : Value) (M : List Rg) (w : World) (ho : Own w w0.heap.size v M) (hb : Below w0.heap.size w0 w) (hm : M.length ≤ 1000000) :
    Calls Try.prog 30 #[v] w (TwoPost w0 (capP M)) := by
  obtain ⟨a, c, rfl, _⟩ := ho.slr
  have HO := Lib.hid ho
  have HB := Lib.hid hb
  obtain ⟨m, hml⟩ : ∃ m, m = M.length := ⟨_, rfl⟩
  rw [← hml] at hm HO ⊢
  have HM := Lib.hid hml
  clear ho hb hml
  by_cases h : 256 < m
  · have hR : Hid (capP M = ([], 4)) := Lib.hid (if_pos (by rw [← HM.out]; exact h))
    have h' : (256 : Int) < (m : Int) := by omega
    clear h
    go_enter Try.func30, Try.ntmps30
    go_wp2_with fail
    go_ret2
    rw [hR.out]
    exact ⟨_, rfl, Own.nil _ _, HB.out⟩
  · have hR : Hid (capP M = (M, 0)) := Lib.hid (if_neg (by rw [← HM.out]; exact h))
    have h' : ¬ (256 : Int) < (m : Int) := by omega
    clear h
    go_enter Try.func30, Try.ntmps30
    go_wp2_with fail
    go_ret2
    rw [hR.out]
    exact ⟨_, rfl, HO.out, HB.out⟩
theorem check_yes (v : Value) (L : List Rg) (w : World) (h : SlR w v L) (k : ckL L = true) : Calls Try.prog 15 #[v] w fun e w' => e = .returned (.int .i64 0) ∧ Below w.heap.size w w' := by
  obtain ⟨a, c, rfl, h1, _⟩ := h
  have := check_any a c L w h1
  rw [k] at this
  exact this
theorem check_not (v : Value) (L : List Rg) (w : World) (h : SlR w v L) (k : ckL L = false) : Calls Try.prog 15 #[v] w fun e w' => e = .returned (.int .i64 8) ∧ Below w.heap.size w w' := by
  obtain ⟨a, c, rfl, h1, _⟩ := h
  have := check_any a c L w h1
  rw [k] at this
  exact this
theorem turn_slr (v : Value) (L : List Rg) (w : World) (h : SlR w v L) (k : ckL L = true) : Calls Try.prog 31 #[v] w (TurnPost w L) := by
  obtain ⟨a, c, rfl, h1, _⟩ := h
  obtain ⟨k1, k2⟩ := ck_cn k
  exact turn_any a c L w h1 k2 (by omega)
theorem not_any (v : Value) (L : List Rg) (w : World) (h : SlR w v L) : Calls Try.prog 9 #[v] w (TwoPost w (notP L)) := by
  cases k : ckL L with
  | false =>
    have HC := Lib.hid (check_not v L w h k)
    have hR : Hid (notP L = ([], 8)) := Lib.hid (by unfold notP; rw [k]; rfl)
    obtain ⟨a, c, rfl, h1⟩ := h
    clear h1 k
    go_enter Try.func9, Try.ntmps9
    go_wp2_with fail
    refine HC.out.mono ?_
    rintro e w1 ⟨rfl, b1⟩
    go_wp2_with fail
    go_ret2
    rw [hR.out]
    exact ⟨_, rfl, Own.nil _ _, b1⟩
  | true =>
    have HC := Lib.hid (check_yes v L w h k)
    have HT : Hid (∀ w1, Below w.heap.size w w1 → Calls Try.prog 31 #[v] w1 (TurnPost w1 L)) := Lib.hid (fun w1 b => turn_slr v L w1 (h.below b) k)
    have hlen := (ck_cn k).1
    have hR : Hid (notP L = capP (gapL 0 L) ∧ (gapL 0 L).length ≤ 1000000) := Lib.hid (by
      have h2 := (ck_cn k).2
      refine ⟨?_, by have := gap_len h2; omega⟩
      unfold notP; rw [k, gap_notC h2]; rfl)
    obtain ⟨a, c, rfl, h1⟩ := h
    clear h1 k hlen
    go_enter Try.func9, Try.ntmps9
    go_wp2_with fail
    refine HC.out.mono ?_
    rintro e w1 ⟨rfl, b1⟩
    go_wp2_with fail
    refine (HT.out _ b1).mono ?_
    rintro e w2 ⟨v2, rfl, o2, b2⟩
    have HCap := Lib.hid (capped_any (w0 := w) v2 (gapL 0 L) w2 (Own.base o2 b1.size) (b1.trans (b2.mono b1.size)) hR.out.2)
    clear o2 b2 b1
    go_wp2_with fail
    refine HCap.out.mono ?_
    rintro e w3 ⟨v3, rfl, o3, b3⟩
    have O3 := Lib.hid o3
    have B3 := Lib.hid b3
    clear o3 b3
    go_wp2_with fail
    go_ret2
    rw [hR.out.1]
    exact ⟨_, rfl, O3.out, B3.out⟩
end Go.Proofs.Ytlngdohkoeognaa
