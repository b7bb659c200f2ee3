import Derived.Test.YtjcaadihkbhlhaaDoorL1
import Derived.Test.YtjcaadihkbhlhaaDoorG7
namespace Go.Proofs.YtjcaadihkbhlhaaDoor
open Go.RowKit
theorem retR {Q : Ending → World → Prop} {tmps : Array Value} {w : World} {N : Nat} {s u h p a q : ByteArray} {hu hq : Bool} {c : Int} (h2 : tmps.getD 2 undef = .pointer (some ⟨N, 0, none⟩)) (h3 : tmps.getD 3 undef = .int .i64 c)
    (H : VB w N #[.string s, .string u, .string h, .string p, .string a, .string q, .bool hu, .bool hq] 24)
    (hQ : Q (.returned (.tuple #[adV s u h p a q hu hq, .int .i64 c])) w) : bodyPost Tryd.prog Tryd.f11 Q .ret ⟨tmps, []⟩ w := by
  refine bodyPost_ret (v := .tuple #[adV s u h p a q hu hq, .int .i64 c]) ?_ rfl hQ
  rw [results_cell_tmp (p := 2) (u := 3) (ty := 24) Tryd.results11, h2, h3]
  simp [asAddr, Result.andThen, load_adr H]
/-- The state of the reference's Parse. -/
def RS (N : Nat) (w W : World) (C : Array Value) : Prop := VB W N #[.string ⟨#[]⟩, .string ⟨#[]⟩, .string ⟨#[]⟩, .string ⟨#[]⟩, .string ⟨#[]⟩, .string ⟨#[]⟩, .bool false, .bool false] 24 ∧ VB W (N + 1) C 24 ∧ Below N w W
theorem RS.up {N : Nat} {w W W' : World} {C : Array Value} (h : RS N w W C) (hb : Below W.heap.size W W') : RS N w W' C := ⟨h.1.up hb, h.2.1.up hb, h.2.2.trans (hb.mono (by have := h.1.lt; omega))⟩
theorem RS.new (w : World) (C : Array Value) : RS w.heap.size w ((w.alloc (.cells #[.string ⟨#[]⟩, .string ⟨#[]⟩, .string ⟨#[]⟩, .string ⟨#[]⟩, .string ⟨#[]⟩, .string ⟨#[]⟩, .bool false, .bool false] 24)).alloc (.cells C 24)) C := by
  have x1 := VB.new w #[.string ⟨#[]⟩, .string ⟨#[]⟩, .string ⟨#[]⟩, .string ⟨#[]⟩, .string ⟨#[]⟩, .string ⟨#[]⟩, .bool false, .bool false] 24
  obtain ⟨w1, h1⟩ : ∃ w1, w1 = w.alloc (.cells #[.string ⟨#[]⟩, .string ⟨#[]⟩, .string ⟨#[]⟩, .string ⟨#[]⟩, .string ⟨#[]⟩, .string ⟨#[]⟩, .bool false, .bool false] 24) := ⟨_, rfl⟩
  have z1 : w1.heap.size = w.heap.size + 1 := by rw [h1]; simp
  have b1 : Below w.heap.size w w1 := by rw [h1]; exact (Below.refl _ w).alloc (Nat.le_refl _) _
  rw [← h1] at x1 ⊢
  have x2 := VB.new w1 C 24
  have b2 : Below w1.heap.size w1 (w1.alloc (.cells C 24)) := (Below.refl _ w1).alloc (Nat.le_refl _) _
  rw [z1] at x2
  exact ⟨x1.up b2, x2, b1.trans (b2.mono (by omega))⟩
theorem RS.put {N : Nat} {w W : World} {C : Array Value} (h : RS N w W C) (i : Nat) (v : Value) : RS N w (W.setCell ⟨N + 1, i, none⟩ v) (C.setIfInBounds i v) :=
  ⟨h.1.other (by omega) i v, h.2.1.set i v, h.2.2.setCell (by simp) v⟩
theorem RS.fz {N : Nat} {w W : World} {C : Array Value} (h : RS N w W C) : W.frozen? ⟨N + 1, 0, none⟩ = false ∧ W.frozen? ⟨N + 1, 1, none⟩ = false ∧ W.frozen? ⟨N + 1, 2, none⟩ = false ∧ W.frozen? ⟨N + 1, 3, none⟩ = false ∧ W.frozen? ⟨N + 1, 4, none⟩ = false ∧ W.frozen? ⟨N + 1, 5, none⟩ = false ∧ W.frozen? ⟨N + 1, 6, none⟩ = false ∧ W.frozen? ⟨N + 1, 7, none⟩ = false := ⟨h.2.1.fz 0, h.2.1.fz 1, h.2.1.fz 2, h.2.1.fz 3, h.2.1.fz 4, h.2.1.fz 5, h.2.1.fz 6, h.2.1.fz 7⟩
theorem RS.c {N : Nat} {w W : World} {v0 v1 v2 v3 v4 v5 v6 v7 : Value} (h : RS N w W #[v0, v1, v2, v3, v4, v5, v6, v7]) :
    W.cell? ⟨N + 1, 0, none⟩ = some v0 ∧ W.cell? ⟨N + 1, 1, none⟩ = some v1 ∧ W.cell? ⟨N + 1, 2, none⟩ = some v2 ∧ W.cell? ⟨N + 1, 3, none⟩ = some v3 ∧ W.cell? ⟨N + 1, 4, none⟩ = some v4 ∧ W.cell? ⟨N + 1, 5, none⟩ = some v5 ∧ W.cell? ⟨N + 1, 6, none⟩ = some v6 ∧ W.cell? ⟨N + 1, 7, none⟩ = some v7 := ⟨h.2.1.cell 0, h.2.1.cell 1, h.2.1.cell 2, h.2.1.cell 3, h.2.1.cell 4, h.2.1.cell 5, h.2.1.cell 6, h.2.1.cell 7⟩
theorem RS.z {N : Nat} {w W : World} {C : Array Value} (h : RS N w W C) :
    (W.cell? ⟨N, 0, none⟩ = some (.string ⟨#[]⟩) ∧ W.cell? ⟨N, 1, none⟩ = some (.string ⟨#[]⟩) ∧ W.cell? ⟨N, 2, none⟩ = some (.string ⟨#[]⟩) ∧ W.cell? ⟨N, 3, none⟩ = some (.string ⟨#[]⟩) ∧ W.cell? ⟨N, 4, none⟩ = some (.string ⟨#[]⟩) ∧ W.cell? ⟨N, 5, none⟩ = some (.string ⟨#[]⟩) ∧ W.cell? ⟨N, 6, none⟩ = some (.bool false) ∧ W.cell? ⟨N, 7, none⟩ = some (.bool false)) ∧ (W.frozen? ⟨N, 0, none⟩ = false ∧ W.frozen? ⟨N, 1, none⟩ = false ∧ W.frozen? ⟨N, 2, none⟩ = false ∧ W.frozen? ⟨N, 3, none⟩ = false ∧ W.frozen? ⟨N, 4, none⟩ = false ∧ W.frozen? ⟨N, 5, none⟩ = false ∧ W.frozen? ⟨N, 6, none⟩ = false ∧ W.frozen? ⟨N, 7, none⟩ = false) :=
  ⟨⟨h.1.cell 0, h.1.cell 1, h.1.cell 2, h.1.cell 3, h.1.cell 4, h.1.cell 5, h.1.cell 6, h.1.cell 7⟩, ⟨h.1.fz 0, h.1.fz 1, h.1.fz 2, h.1.fz 3, h.1.fz 4, h.1.fz 5, h.1.fz 6, h.1.fz 7⟩⟩
theorem RS.end8 {N : Nat} {w W : World} {C : Array Value} (h : RS N w W C) (v0 v1 v2 v3 v4 v5 v6 v7 : Value) : VB ((((((((W.setCell ⟨N, 0, none⟩ v0).setCell ⟨N, 1, none⟩ v1).setCell ⟨N, 2, none⟩ v2).setCell ⟨N, 3, none⟩ v3).setCell ⟨N, 4, none⟩ v4).setCell ⟨N, 5, none⟩ v5).setCell ⟨N, 6, none⟩ v6).setCell ⟨N, 7, none⟩ v7) N #[v0, v1, v2, v3, v4, v5, v6, v7] 24 ∧ Below N w ((((((((W.setCell ⟨N, 0, none⟩ v0).setCell ⟨N, 1, none⟩ v1).setCell ⟨N, 2, none⟩ v2).setCell ⟨N, 3, none⟩ v3).setCell ⟨N, 4, none⟩ v4).setCell ⟨N, 5, none⟩ v5).setCell ⟨N, 6, none⟩ v6).setCell ⟨N, 7, none⟩ v7) :=
  ⟨VB.eight h.1 v0 v1 v2 v3 v4 v5 v6 v7, below_eight h.2.2 v0 v1 v2 v3 v4 v5 v6 v7⟩
def a0R (s : ByteArray) : Nat := fdN [58] s.data.toList
set_option maxRecDepth 20000 in
set_option maxHeartbeats 1000000 in
theorem rparse_long (s : ByteArray) (w : World) (hl : 2048 < s.size) (hs : s.size ≤ 1000000) : Calls Tryd.prog 11 #[.string s] w fun e w' => e = .returned (.tuple #[adZ, .int .i64 150]) ∧ Below w.heap.size w w' := by
  have F1 := Lib.hid (fun W => find_any s ⟨#[58]⟩ (by decide) (by omega) W)
  have e0 : fdN (⟨#[58]⟩ : ByteArray).data.toList s.data.toList = a0R s := rfl
  rw [e0] at F1
  have h1 : (2048 : Int) < (s.size : Int) := by omega
  have X0 := Lib.hid (VB.new w #[.string ⟨#[]⟩, .string ⟨#[]⟩, .string ⟨#[]⟩, .string ⟨#[]⟩, .string ⟨#[]⟩, .string ⟨#[]⟩, .bool false, .bool false] 24)
  unfold adZ
  clear hl hs e0
  go_enter Tryd.func11, Tryd.ntmps11
  go_wp2_with fail
  with_reducible refine (F1.out _).mono ?_
  rintro e w1 ⟨rfl, rfl⟩
  go_wp2_with fail
  exact retR rfl rfl X0.out ⟨rfl, (Below.refl _ _).alloc (Nat.le_refl _) _⟩
set_option maxRecDepth 20000 in
set_option maxHeartbeats 1000000 in
theorem rparse_short (s : ByteArray) (w : World) (hl : ¬ 2048 < s.size) (ha : s.size < a0R s + 3) : Calls Tryd.prog 11 #[.string s] w fun e w' => e = .returned (.tuple #[adZ, .int .i64 150]) ∧ Below w.heap.size w w' := by
  have F1 := Lib.hid (fun W => find_any s ⟨#[58]⟩ (by decide) (by omega) W)
  have e0 : fdN (⟨#[58]⟩ : ByteArray).data.toList s.data.toList = a0R s := rfl
  rw [e0] at F1
  have h1 : ¬ (2048 : Int) < (s.size : Int) := by omega
  have hle : a0R s ≤ s.size := by have := fdN_le [58] s.data.toList; rw [data_len] at this; exact this
  obtain ⟨a, hae⟩ : ∃ a, a = a0R s := ⟨_, rfl⟩
  rw [← hae] at F1 ha hle
  have h2 : (s.size : Int) < (a : Int) + 3 := by omega
  have h3 : (a : Int) ≤ 2048 := by omega
  have X0 := Lib.hid (VB.new w #[.string ⟨#[]⟩, .string ⟨#[]⟩, .string ⟨#[]⟩, .string ⟨#[]⟩, .string ⟨#[]⟩, .string ⟨#[]⟩, .bool false, .bool false] 24)
  unfold adZ
  clear hl ha e0 hle hae
  go_enter Tryd.func11, Tryd.ntmps11
  go_wp2_with fail
  with_reducible refine (F1.out _).mono ?_
  rintro e w1 ⟨rfl, rfl⟩
  go_wp2_with fail
  exact retR rfl rfl X0.out ⟨rfl, (Below.refl _ _).alloc (Nat.le_refl _) _⟩
set_option maxRecDepth 20000 in
set_option maxHeartbeats 1000000 in
theorem rparse_mark (s : ByteArray) (w : World) (hl : ¬ 2048 < s.size) (ha : ¬ s.size < a0R s + 3) (hx : s.extract (a0R s) (a0R s + 3) ≠ ⟨#[58, 47, 47]⟩) : Calls Tryd.prog 11 #[.string s] w fun e w' => e = .returned (.tuple #[adZ, .int .i64 150]) ∧ Below w.heap.size w w' := by
  have F1 := Lib.hid (fun W => find_any s ⟨#[58]⟩ (by decide) (by omega) W)
  have e0 : fdN (⟨#[58]⟩ : ByteArray).data.toList s.data.toList = a0R s := rfl
  rw [e0] at F1
  have h1 : ¬ (2048 : Int) < (s.size : Int) := by omega
  obtain ⟨a, hae⟩ : ∃ a, a = a0R s := ⟨_, rfl⟩
  rw [← hae] at F1 ha hx
  have h2 : ¬ (s.size : Int) < (a : Int) + 3 := by omega
  have h4 : (a : Int) + 3 ≤ (s.size : Int) := by omega
  have h3 : (a : Int) ≤ 2048 := by omega
  have hne : ((s.extract a (a + 3)).toList == [58, 47, 47]) = false := by
    rw [beq_eq_false_iff_ne]
    intro q
    rw [ByteArray.toList_eq] at q
    exact hx (ByteArray.ext (Array.toList_inj.1 q))
  have X0 := Lib.hid (VB.new w #[.string ⟨#[]⟩, .string ⟨#[]⟩, .string ⟨#[]⟩, .string ⟨#[]⟩, .string ⟨#[]⟩, .string ⟨#[]⟩, .bool false, .bool false] 24)
  unfold adZ
  clear hl ha e0 hae hx
  go_enter Tryd.func11, Tryd.ntmps11
  go_wp2_with fail
  with_reducible refine (F1.out _).mono ?_
  rintro e w1 ⟨rfl, rfl⟩
  go_wp2_with fail
  exact retR rfl rfl X0.out ⟨rfl, (Below.refl _ _).alloc (Nat.le_refl _) _⟩
end Go.Proofs.YtjcaadihkbhlhaaDoor
