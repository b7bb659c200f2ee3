/- Layer 3: rows of cells that a call made; the chapter's object; alive. -/
import Derived.Test.YtfmgkndljppffaaD0
namespace Go.Proofs.Ytfmgkndljppffaa
open Go.RowKit Go.Maps
def rw5 (L : List CR) : List Value := L.flatMap fun c => [.int .u8 c.k, .string c.nm, .string c.tx, .int .i64 c.n, .int .i64 c.m]
theorem rw5_nil : rw5 [] = [] := rfl
theorem rw5_cons (c : CR) (L : List CR) : rw5 (c :: L) = .int .u8 c.k :: .string c.nm :: .string c.tx :: .int .i64 c.n :: .int .i64 c.m :: rw5 L := rfl
theorem rw5_app (L M : List CR) : rw5 (L ++ M) = rw5 L ++ rw5 M := by unfold rw5; rw [List.flatMap_append]
theorem rw5_len : ∀ L : List CR, (rw5 L).length = L.length * 5
  | [] => rfl
  | c :: L => by rw [rw5_cons]; simp [rw5_len L]; omega
theorem rw5_at : ∀ (L : List CR) (i : Nat), i < L.length → (rw5 L)[i * 5]? = some (.int .u8 (gl L i).k) ∧ (rw5 L)[i * 5 + 1]? = some (.string (gl L i).nm) ∧ (rw5 L)[i * 5 + 2]? = some (.string (gl L i).tx) ∧ (rw5 L)[i * 5 + 3]? = some (.int .i64 (gl L i).n) ∧ (rw5 L)[i * 5 + 4]? = some (.int .i64 (gl L i).m)
  | [], i, h => by simp at h
  | c :: L, 0, h => by
    rw [rw5_cons]
    exact ⟨rfl, rfl, rfl, rfl, rfl⟩
  | c :: L, i + 1, h => by
    have ih := rw5_at L i (by simpa using h)
    rw [rw5_cons, show (i + 1) * 5 = i * 5 + 5 by omega]
    exact ih
theorem cv_of {w : World} {q n : Nat} {L : List CR} (hl : L.length = n) (hq : q < w.heap.size) (h : ∀ j, j < n * 5 → w.cell? ⟨q, j, none⟩ = (rw5 L)[j]?) : CV w (some ⟨q, 0, none⟩) n (gl L) := fun i hi => by
  obtain ⟨a0, a1, a2, a3, a4⟩ := rw5_at L i (by omega)
  exact ⟨q, 0, rfl, hq, by rw [Nat.zero_add, h _ (by omega)]; exact a0, by rw [Nat.zero_add, h _ (by omega)]; exact a1, by rw [Nat.zero_add, h _ (by omega)]; exact a2, by rw [Nat.zero_add, h _ (by omega)]; exact a3, by rw [Nat.zero_add, h _ (by omega)]; exact a4⟩
theorem cv_block {w : World} {q : Nat} {cs : Array Value} {t : TypeId} {L : List CR} (hb : w.heap[q]? = some (.cells cs t)) (hc : cs.toList = rw5 L) : CV w (some ⟨q, 0, none⟩) L.length (gl L) :=
  cv_of rfl (Array.getElem?_eq_some_iff.1 hb).1 fun j hj => by
    unfold World.cell?
    rw [hb, ← hc, Array.getElem?_toList]
    rfl
theorem own_cv {w : World} {B n : Nat} {v : Value} {L : List CR} (hl : L.length = n) (h : w.ownsRow B 32 5 v n (rw5 L)) : ∃ ad cap, v = .slice ad n cap ∧ CV w ad n (gl L) ∧ (∀ b off, ad = some ⟨b, off, none⟩ → B ≤ b) ∧ (n = 0 → ad = none ∨ True) := by
  rcases h.2 with ⟨rfl, hn⟩ | ⟨q, cap, cur, rfl, hg, hgg, h1, h2, h3, h4⟩
  · subst hn
    exact ⟨none, 0, rfl, fun i hi => by omega, fun b off e => by (cases e), fun _ => .inl rfl⟩
  · exact ⟨some ⟨q, 0, none⟩, cap, rfl, cv_of hl (Array.getElem?_eq_some_iff.1 hgg).1 (fun j hj => h.cellAt j hj), fun b off e => by (cases e; exact hg), fun _ => .inr trivial⟩
def fiveL : List CR := [⟨7, ⟨#[]⟩, ⟨#[]⟩, 0, 2⟩, ⟨2, ⟨#[97]⟩, ⟨#[]⟩, 1, 0⟩, ⟨6, ⟨#[98]⟩, ⟨#[]⟩, 0, 2⟩, ⟨0, ⟨#[]⟩, ⟨#[]⟩, 0, 0⟩, ⟨3, ⟨#[]⟩, ⟨#[120]⟩, 0, 0⟩]
theorem five_ck : ckC (gl fiveL) 5 = true := by decide +kernel
theorem five_cw : CW 5 (gl fiveL) := by
  intro i hi
  rcases (by omega : i = 0 ∨ i = 1 ∨ i = 2 ∨ i = 3 ∨ i = 4) with rfl | rfl | rfl | rfl | rfl <;> exact ⟨by decide, by decide, by decide, by decide, by decide⟩
set_option maxRecDepth 20000 in
theorem five_any (w : World) : Calls Try.prog 9 #[] w fun e w' => ∃ a c, e = .returned (.slice a 5 c) ∧ CV w' a 5 (gl fiveL) ∧ Below w.heap.size w w' := by
  have H := Lib.hid (cv_block (L := fiveL) (heap_alloc_new w (.cells #[.int .u8 7, .string ⟨#[]⟩, .string ⟨#[]⟩, .int .i64 0, .int .i64 2, .int .u8 2, .string ⟨#[97]⟩, .string ⟨#[]⟩, .int .i64 1, .int .i64 0, .int .u8 6, .string ⟨#[98]⟩, .string ⟨#[]⟩, .int .i64 0, .int .i64 2, .int .u8 0, .string ⟨#[]⟩, .string ⟨#[]⟩, .int .i64 0, .int .i64 0, .int .u8 3, .string ⟨#[]⟩, .string ⟨#[120]⟩, .int .i64 0, .int .i64 0] 32)) rfl)
  go_enter Try.func9, Try.ntmps9
  go_wp2_with fail
  go_ret
  exact ⟨_, _, rfl, H.out, (Below.refl _ _).alloc (Nat.le_refl _) _⟩
end Go.Proofs.Ytfmgkndljppffaa
