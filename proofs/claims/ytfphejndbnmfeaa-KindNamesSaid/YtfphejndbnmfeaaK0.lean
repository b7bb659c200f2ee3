import Derived.Test.YtfphejndbnmfeaaProg
import Derived.WalkKit
import Derived.WalkSpells
import Derived.WalkLawsBesides
import Derived.BigQuiet
import Derived.Lib.Hide
import Derived.Below
import Derived.Deep.LoopGhost
namespace Go.Proofs.Ytfphejndbnmfeaa
open Go.RowKit

theorem ret_bool {a b : Bool} (h : a = b) : Ending.returned (.bool a) = .returned (.bool b) := by rw [h]
/-- A slice of bytes that can be read. -/
def View (w : World) (a : Option Addr) (len : Nat) (L : List Int) : Prop :=
  L.length = len ∧ ∀ k, k < len → ∃ b off, a = some ⟨b, off, none⟩ ∧ b < w.heap.size ∧ w.cell? ⟨b, off + k, none⟩ = some (.int .u8 (L.getD k 0))
theorem View.below {w w' : World} {a : Option Addr} {len : Nat} {L : List Int} (h : View w a len L) (hb : Below w.heap.size w w') : View w' a len L := by
  refine ⟨h.1, fun k hk => ?_⟩
  obtain ⟨b, off, e, hx, hc⟩ := h.2 k hk
  exact ⟨b, off, e, by have := hb.size; omega, (hb.cell (p := ⟨b, off + k, none⟩) hx).trans hc⟩
/-- A type, as it is handed on. -/
def refV (nm : ByteArray) (a : Option Addr) (len cap : Nat) : Value := .agg #[.string nm, .slice a len cap]
def non (L : List Int) : Bool := decide (0 < L.length) && (L.getD 0 0 == 1)

theorem isNon_any (nm : ByteArray) (a : Option Addr) (len cap : Nat) (L : List Int) (w : World) (hv : View w a len L) :
    Calls Try.prog 9 #[refV nm a len cap] w fun e w' => e = .returned (.bool (non L)) ∧ Below w.heap.size w w' := by
  obtain ⟨hl, hc⟩ := hv
  unfold refV
  by_cases hz : len = 0
  · subst hz
    have hr := Lib.hid (show non L = false by unfold non; rw [hl]; rfl)
    clear hc hl
    go_enter Try.func9, Try.ntmps9
    go_wp2_with fail
    go_ret
    exact ⟨ret_bool hr.out.symm, (Below.refl _ w).alloc (Nat.le_refl _) _⟩
  · obtain ⟨b, off, rfl, hb, hx⟩ := hc 0 (by omega)
    rw [Nat.add_zero] at hx
    obtain ⟨x, hxx⟩ : ∃ x, x = L.getD 0 0 := ⟨_, rfl⟩
    rw [← hxx] at hx
    have hr := Lib.hid (show non L = (x == 1) by unfold non; rw [← hxx, hl]; simp; omega)
    have hx2 : (w.alloc (.cells #[.string nm, .slice (some ⟨b, off, none⟩) len cap] 36)).cell? ⟨b, off, none⟩ = some (.int .u8 x) := by
      rw [((Below.refl w.heap.size w).alloc (Nat.le_refl _) _).cell (p := ⟨b, off, none⟩) hb]; exact hx
    have hp : 0 < (len : Int) := by omega
    clear hc hl hxx
    go_enter Try.func9, Try.ntmps9
    go_wp2_with fail
    go_ret
    exact ⟨ret_bool hr.out.symm, (Below.refl _ w).alloc (Nat.le_refl _) _⟩

theorem shape_name (nm : ByteArray) (a : Option Addr) (cap : Nat) (w : World) :
    Calls Try.prog 14 #[refV nm a 0 cap] w fun e w' => e = .returned (.tuple #[.iface 64 (refV nm a 0 cap), .bool true]) ∧ Below w.heap.size w w' := by
  unfold refV
  go_enter Try.func14, Try.ntmps14
  go_wp2_with fail
  go_ret2
  exact ⟨rfl, (Below.refl _ w).alloc (Nat.le_refl _) _⟩
/-- Where the rest of a slice begins. -/
def tl (b off cap : Nat) : Option Addr := if cap = 1 then some ⟨b, off, none⟩ else some ⟨b, off + 1, none⟩
theorem View.tail {w : World} {b off len cap : Nat} {L : List Int} (h : View w (some ⟨b, off, none⟩) len L) (hl : 1 ≤ len) (hc : len ≤ cap) : View w (tl b off cap) (len - 1) L.tail := by
  refine ⟨by rw [List.length_tail, h.1], fun k hk => ?_⟩
  obtain ⟨b', off', e, hx, hv⟩ := h.2 (k + 1) (by omega)
  simp only [Option.some.injEq, Addr.mk.injEq, and_true] at e
  obtain ⟨rfl, rfl⟩ := e
  refine ⟨b, off + 1, by unfold tl; rw [if_neg (by omega)], hx, ?_⟩
  rw [show off + 1 + k = off + (k + 1) by omega, hv]
  cases L with
  | nil => have := h.1; simp at this; omega
  | cons c L => simp [List.getD]
theorem shape_non (nm : ByteArray) (b off len cap : Nat) (x : Int) (w : World) (hb : b < w.heap.size) (hx : w.cell? ⟨b, off, none⟩ = some (.int .u8 x)) (hl : 1 ≤ len) (hlc : len ≤ cap) (h1 : x = 1) :
    Calls Try.prog 14 #[refV nm (some ⟨b, off, none⟩) len cap] w fun e w' => e = .returned (.tuple #[Value.iface 58 (refV nm (tl b off cap) (len - 1) (cap - 1)), .bool true]) ∧ Below w.heap.size w w' := by
  have HT : Hid (tl b off cap = if cap = 1 then some ⟨b, off, none⟩ else some ⟨b, off + 1, none⟩) := Lib.hid rfl
  obtain ⟨A, hA⟩ : ∃ A, A = tl b off cap := ⟨_, rfl⟩
  rw [← hA] at HT ⊢
  unfold refV
  clear hA
  have hx0 : w.cell? ⟨b, off, none⟩ = some (.int .u8 x) := hx
  have hp : (1 : Int) ≤ (len : Int) := by omega
  have hne : ((len : Int) == 0) = false := by simp; omega
  have HB := Lib.hid hb
  have HX := Lib.hid hx
  subst h1
  clear hb hx hx0
  go_enter Try.func14, Try.ntmps14
  go_wp2_with fail
  go_region
  rw [← HT.out]
  obtain ⟨W, hW⟩ : ∃ W, W = ((w.alloc (.cells #[.string nm, .slice (some ⟨b, off, none⟩) len cap] 36)).alloc (.cells #[.string nm, .slice A (len - 1) (cap - 1)] 36)).drew := ⟨_, rfl⟩
  rw [← hW]
  have hBW : Below w.heap.size w W := by rw [hW]; exact ((((Below.refl w.heap.size w).alloc (Nat.le_refl _) _).alloc (by simp) _).drew)
  have c0 : W.cell? ⟨w.heap.size, 0, none⟩ = some (.string nm) := by rw [hW]; simp
  have c1 : W.cell? ⟨w.heap.size, 1, none⟩ = some (.slice (some ⟨b, off, none⟩) len cap) := by rw [hW]; simp
  have c2 : W.cell? ⟨w.heap.size + 1, 0, none⟩ = some (.string nm) := by rw [hW]; simp
  have c3 : W.cell? ⟨w.heap.size + 1, 1, none⟩ = some (.slice A (len - 1) (cap - 1)) := by rw [hW]; simp
  have hxW : W.cell? ⟨b, off, none⟩ = some (.int .u8 1) := (hBW.cell (p := ⟨b, off, none⟩) HB.out).trans HX.out
  have HBW := Lib.hid hBW
  clear hW hBW
  go_wp2_with fail
  go_ret2
  exact ⟨rfl, HBW.out⟩
theorem shape_list (nm : ByteArray) (b off len cap : Nat) (x : Int) (w : World) (hb : b < w.heap.size) (hx : w.cell? ⟨b, off, none⟩ = some (.int .u8 x)) (hl : 1 ≤ len) (hlc : len ≤ cap) (h1 : x = 2) :
    Calls Try.prog 14 #[refV nm (some ⟨b, off, none⟩) len cap] w fun e w' => e = .returned (.tuple #[Value.iface 61 (refV nm (tl b off cap) (len - 1) (cap - 1)), .bool true]) ∧ Below w.heap.size w w' := by
  have HT : Hid (tl b off cap = if cap = 1 then some ⟨b, off, none⟩ else some ⟨b, off + 1, none⟩) := Lib.hid rfl
  obtain ⟨A, hA⟩ : ∃ A, A = tl b off cap := ⟨_, rfl⟩
  rw [← hA] at HT ⊢
  unfold refV
  clear hA
  have hx0 : w.cell? ⟨b, off, none⟩ = some (.int .u8 x) := hx
  have hp : (1 : Int) ≤ (len : Int) := by omega
  have hne : ((len : Int) == 0) = false := by simp; omega
  have HB := Lib.hid hb
  have HX := Lib.hid hx
  subst h1
  clear hb hx hx0
  go_enter Try.func14, Try.ntmps14
  go_wp2_with fail
  go_region
  rw [← HT.out]
  obtain ⟨W, hW⟩ : ∃ W, W = ((w.alloc (.cells #[.string nm, .slice (some ⟨b, off, none⟩) len cap] 36)).alloc (.cells #[.string nm, .slice A (len - 1) (cap - 1)] 36)).drew := ⟨_, rfl⟩
  rw [← hW]
  have hBW : Below w.heap.size w W := by rw [hW]; exact ((((Below.refl w.heap.size w).alloc (Nat.le_refl _) _).alloc (by simp) _).drew)
  have c0 : W.cell? ⟨w.heap.size, 0, none⟩ = some (.string nm) := by rw [hW]; simp
  have c1 : W.cell? ⟨w.heap.size, 1, none⟩ = some (.slice (some ⟨b, off, none⟩) len cap) := by rw [hW]; simp
  have c2 : W.cell? ⟨w.heap.size + 1, 0, none⟩ = some (.string nm) := by rw [hW]; simp
  have c3 : W.cell? ⟨w.heap.size + 1, 1, none⟩ = some (.slice A (len - 1) (cap - 1)) := by rw [hW]; simp
  have hxW : W.cell? ⟨b, off, none⟩ = some (.int .u8 2) := (hBW.cell (p := ⟨b, off, none⟩) HB.out).trans HX.out
  have HBW := Lib.hid hBW
  clear hW hBW
  go_wp2_with fail
  go_ret2
  exact ⟨rfl, HBW.out⟩
theorem shape_bad (nm : ByteArray) (b off len cap : Nat) (x : Int) (w : World) (hb : b < w.heap.size) (hx : w.cell? ⟨b, off, none⟩ = some (.int .u8 x)) (hl : 1 ≤ len) (hlc : len ≤ cap) (h1 : x ≠ 1) (h2 : x ≠ 2) :
    Calls Try.prog 14 #[refV nm (some ⟨b, off, none⟩) len cap] w fun e w' => e = .returned (.tuple #[Value.iface 64 (refV ⟨#[]⟩ none 0 0), .bool false]) ∧ Below w.heap.size w w' := by
  have HT : Hid (tl b off cap = if cap = 1 then some ⟨b, off, none⟩ else some ⟨b, off + 1, none⟩) := Lib.hid rfl
  obtain ⟨A, hA⟩ : ∃ A, A = tl b off cap := ⟨_, rfl⟩
  rw [← hA] at HT
  unfold refV
  clear hA
  have hx0 : w.cell? ⟨b, off, none⟩ = some (.int .u8 x) := hx
  have hp : (1 : Int) ≤ (len : Int) := by omega
  have hne : ((len : Int) == 0) = false := by simp; omega
  have HB := Lib.hid hb
  have HX := Lib.hid hx
  have g1 : (x == 1) = false := by simp [h1]
  have g2 : (x == 2) = false := by simp [h2]
  clear hb hx hx0
  go_enter Try.func14, Try.ntmps14
  go_wp2_with fail
  go_region
  rw [← HT.out]
  obtain ⟨W, hW⟩ : ∃ W, W = ((w.alloc (.cells #[.string nm, .slice (some ⟨b, off, none⟩) len cap] 36)).alloc (.cells #[.string nm, .slice A (len - 1) (cap - 1)] 36)).drew := ⟨_, rfl⟩
  rw [← hW]
  have hBW : Below w.heap.size w W := by rw [hW]; exact ((((Below.refl w.heap.size w).alloc (Nat.le_refl _) _).alloc (by simp) _).drew)
  have c0 : W.cell? ⟨w.heap.size, 0, none⟩ = some (.string nm) := by rw [hW]; simp
  have c1 : W.cell? ⟨w.heap.size, 1, none⟩ = some (.slice (some ⟨b, off, none⟩) len cap) := by rw [hW]; simp
  have c2 : W.cell? ⟨w.heap.size + 1, 0, none⟩ = some (.string nm) := by rw [hW]; simp
  have c3 : W.cell? ⟨w.heap.size + 1, 1, none⟩ = some (.slice A (len - 1) (cap - 1)) := by rw [hW]; simp
  have hxW : W.cell? ⟨b, off, none⟩ = some (.int .u8 x) := (hBW.cell (p := ⟨b, off, none⟩) HB.out).trans HX.out
  have HBW := Lib.hid hBW
  clear hW hBW
  go_wp2_with fail
  go_ret2
  exact ⟨rfl, HBW.out⟩
end Go.Proofs.Ytfphejndbnmfeaa
