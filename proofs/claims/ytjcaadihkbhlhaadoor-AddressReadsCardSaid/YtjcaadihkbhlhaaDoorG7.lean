import Derived.Test.YtjcaadihkbhlhaaDoorG6
namespace Go.Proofs.YtjcaadihkbhlhaaDoor
open Go.RowKit
theorem drawn_below {w w1 : World} (h : ∃ n, w1 = w.drewN n) : Below w.heap.size w w1 := by
  obtain ⟨n, rfl⟩ := h
  exact below_dr (Below.refl _ _) n
def AC (s u h p a q : ByteArray) (hu hq : Bool) : Array Value := #[.string s, .string u, .string h, .string p, .string a, .string q, .bool hu, .bool hq]
def eT : ByteArray := ⟨#[]⟩
/-- The state of Parse: the result's block, the parts', the rest's. -/
def PS (N : Nat) (w W : World) (C : Array Value) (R : ByteArray) : Prop :=
  VB W N (AC ⟨#[]⟩ ⟨#[]⟩ ⟨#[]⟩ ⟨#[]⟩ ⟨#[]⟩ ⟨#[]⟩ false false) 24 ∧ VB W (N + 1) C 24 ∧ VB W (N + 1 + 1) #[.string R] 9 ∧ Below N w W
theorem PS.up {N : Nat} {w W W' : World} {C : Array Value} {R : ByteArray} (h : PS N w W C R) (hb : Below W.heap.size W W') : PS N w W' C R :=
  ⟨h.1.up hb, h.2.1.up hb, h.2.2.1.up hb, h.2.2.2.trans (hb.mono (by have := h.1.lt; omega))⟩
theorem PS.cut {N : Nat} {w W W' : World} {C : Array Value} {R R' : ByteArray} (h : PS N w W C R) (hr : VB W' (N + 1 + 1) #[.string R'] 9) (hb : Below (N + 1 + 1) W W') : PS N w W' C R' :=
  ⟨h.1.below hb (by omega), h.2.1.below hb (by omega), hr, h.2.2.2.trans (hb.mono (by omega))⟩
theorem PS.put {N : Nat} {w W : World} {C : Array Value} {R : ByteArray} (h : PS N w W C R) (i : Nat) (v : Value) : PS N w (W.setCell ⟨N + 1, i, none⟩ v) (C.setIfInBounds i v) R :=
  ⟨h.1.other (by omega) i v, h.2.1.set i v, h.2.2.1.other (by omega) i v, h.2.2.2.setCell (by simp) v⟩
theorem PS.new (w : World) (s : ByteArray) : PS w.heap.size w (((w.alloc (.cells (AC ⟨#[]⟩ ⟨#[]⟩ ⟨#[]⟩ ⟨#[]⟩ ⟨#[]⟩ ⟨#[]⟩ false false) 24)).alloc (.cells (AC ⟨#[]⟩ ⟨#[]⟩ ⟨#[]⟩ ⟨#[]⟩ ⟨#[]⟩ ⟨#[]⟩ false false) 24)).alloc (.cells #[.string s] 9)) (AC ⟨#[]⟩ ⟨#[]⟩ ⟨#[]⟩ ⟨#[]⟩ ⟨#[]⟩ ⟨#[]⟩ false false) s := by
  obtain ⟨Z, hZ⟩ : ∃ Z, Z = AC ⟨#[]⟩ ⟨#[]⟩ ⟨#[]⟩ ⟨#[]⟩ ⟨#[]⟩ ⟨#[]⟩ false false := ⟨_, rfl⟩
  unfold PS
  rw [← hZ]
  have x1 := VB.new w Z 24
  obtain ⟨w1, h1⟩ : ∃ w1, w1 = w.alloc (.cells Z 24) := ⟨_, rfl⟩
  have z1 : w1.heap.size = w.heap.size + 1 := by rw [h1]; simp
  have b1 : Below w.heap.size w w1 := by rw [h1]; exact (Below.refl _ w).alloc (Nat.le_refl _) _
  rw [← h1] at x1 ⊢
  have x2 := VB.new w1 Z 24
  obtain ⟨w2, h2⟩ : ∃ w2, w2 = w1.alloc (.cells Z 24) := ⟨_, rfl⟩
  have z2 : w2.heap.size = w.heap.size + 1 + 1 := by rw [h2]; simp [z1]
  have b2 : Below w1.heap.size w1 w2 := by rw [h2]; exact (Below.refl _ w1).alloc (Nat.le_refl _) _
  rw [← h2] at x2 ⊢
  have x3 := VB.new w2 #[.string s] 9
  have b3 : Below w2.heap.size w2 (w2.alloc (.cells #[.string s] 9)) := (Below.refl _ w2).alloc (Nat.le_refl _) _
  rw [z1] at x2
  rw [z2] at x3
  exact ⟨(x1.up b2).up b3, x2.up b3, x3, (b1.trans (b2.mono (by omega))).trans (b3.mono (by omega))⟩
theorem PS.f {N : Nat} {w W : World} {v0 v1 v2 v3 v4 v5 v6 v7 : Value} {R : ByteArray} (h : PS N w W #[v0, v1, v2, v3, v4, v5, v6, v7] R) :
    (W.cell? ⟨N + 1, 0, none⟩ = some v0 ∧ W.cell? ⟨N + 1, 1, none⟩ = some v1 ∧ W.cell? ⟨N + 1, 2, none⟩ = some v2 ∧ W.cell? ⟨N + 1, 3, none⟩ = some v3 ∧ W.cell? ⟨N + 1, 4, none⟩ = some v4 ∧ W.cell? ⟨N + 1, 5, none⟩ = some v5 ∧ W.cell? ⟨N + 1, 6, none⟩ = some v6 ∧ W.cell? ⟨N + 1, 7, none⟩ = some v7) ∧ (W.frozen? ⟨N + 1, 0, none⟩ = false ∧ W.frozen? ⟨N + 1, 1, none⟩ = false ∧ W.frozen? ⟨N + 1, 2, none⟩ = false ∧ W.frozen? ⟨N + 1, 3, none⟩ = false ∧ W.frozen? ⟨N + 1, 4, none⟩ = false ∧ W.frozen? ⟨N + 1, 5, none⟩ = false ∧ W.frozen? ⟨N + 1, 6, none⟩ = false ∧ W.frozen? ⟨N + 1, 7, none⟩ = false) ∧ W.cell? ⟨N + 1 + 1, 0, none⟩ = some (.string R) :=
  ⟨⟨h.2.1.cell 0, h.2.1.cell 1, h.2.1.cell 2, h.2.1.cell 3, h.2.1.cell 4, h.2.1.cell 5, h.2.1.cell 6, h.2.1.cell 7⟩, ⟨h.2.1.fz 0, h.2.1.fz 1, h.2.1.fz 2, h.2.1.fz 3, h.2.1.fz 4, h.2.1.fz 5, h.2.1.fz 6, h.2.1.fz 7⟩, h.2.2.1.cell 0⟩
theorem PS.z {N : Nat} {w W : World} {C : Array Value} {R : ByteArray} (h : PS N w W C R) :
    (W.cell? ⟨N, 0, none⟩ = some (.string ⟨#[]⟩) ∧ W.cell? ⟨N, 1, none⟩ = some (.string ⟨#[]⟩) ∧ W.cell? ⟨N, 2, none⟩ = some (.string ⟨#[]⟩) ∧ W.cell? ⟨N, 3, none⟩ = some (.string ⟨#[]⟩) ∧ W.cell? ⟨N, 4, none⟩ = some (.string ⟨#[]⟩) ∧ W.cell? ⟨N, 5, none⟩ = some (.string ⟨#[]⟩) ∧ W.cell? ⟨N, 6, none⟩ = some (.bool false) ∧ W.cell? ⟨N, 7, none⟩ = some (.bool false)) ∧ (W.frozen? ⟨N, 0, none⟩ = false ∧ W.frozen? ⟨N, 1, none⟩ = false ∧ W.frozen? ⟨N, 2, none⟩ = false ∧ W.frozen? ⟨N, 3, none⟩ = false ∧ W.frozen? ⟨N, 4, none⟩ = false ∧ W.frozen? ⟨N, 5, none⟩ = false ∧ W.frozen? ⟨N, 6, none⟩ = false ∧ W.frozen? ⟨N, 7, none⟩ = false) :=
  ⟨⟨h.1.cell 0, h.1.cell 1, h.1.cell 2, h.1.cell 3, h.1.cell 4, h.1.cell 5, h.1.cell 6, h.1.cell 7⟩, ⟨h.1.fz 0, h.1.fz 1, h.1.fz 2, h.1.fz 3, h.1.fz 4, h.1.fz 5, h.1.fz 6, h.1.fz 7⟩⟩
theorem VB.eight {W : World} {b : Nat} {T : TypeId} {c0 c1 c2 c3 c4 c5 c6 c7 : Value} (h : VB W b #[c0, c1, c2, c3, c4, c5, c6, c7] T) (v0 v1 v2 v3 v4 v5 v6 v7 : Value) : VB ((((((((W.setCell ⟨b, 0, none⟩ v0).setCell ⟨b, 1, none⟩ v1).setCell ⟨b, 2, none⟩ v2).setCell ⟨b, 3, none⟩ v3).setCell ⟨b, 4, none⟩ v4).setCell ⟨b, 5, none⟩ v5).setCell ⟨b, 6, none⟩ v6).setCell ⟨b, 7, none⟩ v7) b #[v0, v1, v2, v3, v4, v5, v6, v7] T := by
  have x := ((((((((h.set 0 v0).set 1 v1).set 2 v2).set 3 v3).set 4 v4).set 5 v5).set 6 v6).set 7 v7)
  simp only [List.setIfInBounds_toArray, List.set_cons_zero, List.set_cons_succ] at x
  exact x
theorem below_eight {w W : World} {N : Nat} (h : Below N w W) (v0 v1 v2 v3 v4 v5 v6 v7 : Value) : Below N w ((((((((W.setCell ⟨N, 0, none⟩ v0).setCell ⟨N, 1, none⟩ v1).setCell ⟨N, 2, none⟩ v2).setCell ⟨N, 3, none⟩ v3).setCell ⟨N, 4, none⟩ v4).setCell ⟨N, 5, none⟩ v5).setCell ⟨N, 6, none⟩ v6).setCell ⟨N, 7, none⟩ v7) :=
  ((((((((h.setCell (Nat.le_refl _) v0).setCell (Nat.le_refl _) v1).setCell (Nat.le_refl _) v2).setCell (Nat.le_refl _) v3).setCell (Nat.le_refl _) v4).setCell (Nat.le_refl _) v5).setCell (Nat.le_refl _) v6).setCell (Nat.le_refl _) v7)
/-- The result is stored. -/
theorem PS.end8 {N : Nat} {w W : World} {C : Array Value} {R : ByteArray} (h : PS N w W C R) (v0 v1 v2 v3 v4 v5 v6 v7 : Value) : VB ((((((((W.setCell ⟨N, 0, none⟩ v0).setCell ⟨N, 1, none⟩ v1).setCell ⟨N, 2, none⟩ v2).setCell ⟨N, 3, none⟩ v3).setCell ⟨N, 4, none⟩ v4).setCell ⟨N, 5, none⟩ v5).setCell ⟨N, 6, none⟩ v6).setCell ⟨N, 7, none⟩ v7) N #[v0, v1, v2, v3, v4, v5, v6, v7] 24 ∧ Below N w ((((((((W.setCell ⟨N, 0, none⟩ v0).setCell ⟨N, 1, none⟩ v1).setCell ⟨N, 2, none⟩ v2).setCell ⟨N, 3, none⟩ v3).setCell ⟨N, 4, none⟩ v4).setCell ⟨N, 5, none⟩ v5).setCell ⟨N, 6, none⟩ v6).setCell ⟨N, 7, none⟩ v7) :=
  ⟨VB.eight h.1 v0 v1 v2 v3 v4 v5 v6 v7, below_eight h.2.2.2 v0 v1 v2 v3 v4 v5 v6 v7⟩
set_option maxRecDepth 20000 in
set_option maxHeartbeats 1000000 in
theorem parse_none (s : ByteArray) (m : Int) (w : World) (hm : w.cell? ⟨0, 0, none⟩ = some (.int .i64 m)) (hl : s.size ≤ 2048) (hi : ixS s < 0) :
    Calls Tryd.prog 10 #[.string s] w fun e w' => e = .returned (.tuple #[adZ, .int .i64 150]) ∧ Below w.heap.size w w' := by
  have h1 : ¬ (2048 : Int) < (s.size : Int) := by omega
  have h0 : 0 < w.heap.size := World.block_lt_of_cell? _ _ hm
  have P0 := Lib.hid (PS.new w s)
  have HC : Hid (∀ W, Below w.heap.size w W → VB W (w.heap.size + 1 + 1) #[.string s] 9 → Calls Tryd.prog 16 #[.string ⟨#[58, 47, 47]⟩, .string ⟨#[]⟩, .pointer (some ⟨w.heap.size + 1 + 1, 0, none⟩)] W fun e w' => e = .returned (.tuple #[.string ⟨#[]⟩, .bool false]) ∧ w' = W) :=
    Lib.hid (fun W hb hv => cutA_no _ s m W hv ((hb.cell (p := ⟨0, 0, none⟩) h0).trans hm) (by omega) hi)
  clear hm hl hi h0
  unfold adZ
  unfold AC at P0
  go_enter Tryd.func10, Tryd.ntmps10
  go_wp2_with fail
  obtain ⟨w3, hw3⟩ : ∃ w3, w3 = (((w.alloc (.cells #[.string ⟨#[]⟩, .string ⟨#[]⟩, .string ⟨#[]⟩, .string ⟨#[]⟩, .string ⟨#[]⟩, .string ⟨#[]⟩, .bool false, .bool false] 24)).alloc (.cells #[.string ⟨#[]⟩, .string ⟨#[]⟩, .string ⟨#[]⟩, .string ⟨#[]⟩, .string ⟨#[]⟩, .string ⟨#[]⟩, .bool false, .bool false] 24)).alloc (.cells #[.string s] 9)) := ⟨_, rfl⟩
  rw [← hw3] at P0 ⊢
  clear hw3
  refine (HC.out _ P0.out.2.2.2 P0.out.2.2.1).mono ?_
  rintro e w4 ⟨rfl, rfl⟩
  obtain ⟨⟨c0, c1, c2, c3, c4, c5, c6, c7⟩, ⟨f0, f1, f2, f3, f4, f5, f6, f7⟩, cr⟩ := (P0).out.f
  obtain ⟨⟨z0, z1, z2, z3, z4, z5, z6, z7⟩, ⟨y0, y1, y2, y3, y4, y5, y6, y7⟩⟩ := (P0).out.z
  go_wp2_with fail
  have E8 := (P0.out.put 0 (.string ⟨#[]⟩)).end8 (.string ⟨#[]⟩) (.string ⟨#[]⟩) (.string ⟨#[]⟩) (.string ⟨#[]⟩) (.string ⟨#[]⟩) (.string ⟨#[]⟩) (.bool false) (.bool false)
  exact retP rfl rfl E8.1 ⟨rfl, E8.2⟩
end Go.Proofs.YtjcaadihkbhlhaaDoor
