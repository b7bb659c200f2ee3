import Derived.Test.YtfphejndbnmfeabK7
namespace Go.Proofs.Ytfphejndbnmfeab
open Go.RowKit

theorem Box.cell {w : World} {g : Nat} {n : ByteArray} {a : Option Addr} {l c : Nat} (h : Box w g n a l c) (k : Nat) : w.cell? ⟨g, k, none⟩ = (#[Value.string n, .slice a l c] : Array Value)[k]? := by
  unfold Box at h; simp [World.cell?, h]
theorem view_set {w : World} {a : Option Addr} {len : Nat} {L : List Int} (h : View w a len L) {g : Nat} {n' : ByteArray} {a' : Option Addr} {l' c' : Nat} (hb : Box w g n' a' l' c') (u v : Value) :
    View ((w.setCell ⟨g, 0, none⟩ u).setCell ⟨g, 1, none⟩ v) a len L := by
  refine ⟨h.1, fun k hk => ?_⟩
  obtain ⟨b, off, e, hx, hc⟩ := h.2 k hk
  have hne : g ≠ b := by
    intro e'
    subst e'
    rw [hb.cell] at hc
    rcases (show off + k = 0 ∨ off + k = 1 ∨ 2 ≤ off + k by omega) with e0 | e0 | e0
    · rw [e0] at hc; simp at hc
    · rw [e0] at hc; simp at hc
    · rw [Array.getElem?_eq_none (by simpa using e0)] at hc; cases hc
  refine ⟨b, off, e, by simpa using hx, ?_⟩
  rw [World.cell?_setCell_far _ _ _ _ hne, World.cell?_setCell_far _ _ _ _ hne]; exact hc
/-- What is held while a type is copied. -/
def Held29 (nm : ByteArray) (a : Option Addr) (len cap : Nat) (w W : World) : Prop := Box W w.heap.size nm a len cap ∧ (∃ (n' : ByteArray) (a' : Option Addr) (l' c' : Nat), Box W (w.heap.size + 1) n' a' l' c') ∧ Below w.heap.size w W
set_option maxRecDepth 10000 in
theorem twin_any (nm : ByteArray) (a : Option Addr) (len cap : Nat) (L : List Int) (w : World) (hv : View w a len L) (hm : len ≤ 1000) :
    Calls Try.prog 29 #[refV nm a len cap] w fun e w' => ∃ v, e = .returned v ∧ IsRef w' nm L v ∧ Below w.heap.size w w' := by
  have hx1 : Box ((w.alloc (.cells #[.string nm, .slice a len cap] 25)).alloc (.cells #[.string ⟨#[]⟩, .slice none 0 0] 25)) w.heap.size nm a len cap := by
    have h : Box (w.alloc (.cells #[.string nm, .slice a len cap] 25)) w.heap.size nm a len cap := heap_alloc_new w _
    exact h.up ((Below.refl _ _).alloc (Nat.le_refl _) _)
  have hx2 : Box ((w.alloc (.cells #[.string nm, .slice a len cap] 25)).alloc (.cells #[.string ⟨#[]⟩, .slice none 0 0] 25)) (w.heap.size + 1) ⟨#[]⟩ none 0 0 := by
    have h := heap_alloc_new (w.alloc (.cells #[.string nm, .slice a len cap] 25)) (.cells #[.string ⟨#[]⟩, .slice none 0 0] 25)
    unfold Box; simpa using h
  have hbl : Below w.heap.size w ((w.alloc (.cells #[.string nm, .slice a len cap] 25)).alloc (.cells #[.string ⟨#[]⟩, .slice none 0 0] 25)) := ((Below.refl _ w).alloc (Nat.le_refl _) _).alloc (by simp) _
  have HV := Lib.hid hv
  have HM := Lib.hid hm
  have HH : Hid (Held29 nm a len cap w ((w.alloc (.cells #[.string nm, .slice a len cap] 25)).alloc (.cells #[.string ⟨#[]⟩, .slice none 0 0] 25)).drew) := Lib.hid ⟨hx1.up ((Below.refl _ _).drew), ⟨_, _, _, _, hx2.up ((Below.refl _ _).drew)⟩, hbl.drew⟩
  clear hx1 hx2 hbl hv hm
  unfold refV
  go_enter Try.func29, Try.ntmps29
  go_wp2_with fail
  refine wp_region_held_drew (S := Held29 nm a len cap w) (by kernel_rfl) HH.out (fun hHeld => ?_)
  refine wpAnyH_take (i := 0) (oi := { dst := some 3, op := Op.fieldAddr 25 (Operand.tmp 1) 0, type := 0, pos := "kind.go:50", after := #[], guard := none }) (v := .pointer (some ⟨w.heap.size, 0, none⟩)) rfl (by kernel_rfl) (by kernel_rfl) (by kernel_rfl) (fun _ _ _ h => h) (Or.inl ⟨by rfl, fun w hSw => by (go_simp <;> rfl)⟩) hHeld ?_
  try simp only [Act.put, List.setIfInBounds_toArray, List.set_cons_zero, List.set_cons_succ]
  refine wpAnyH_take (i := 1) (oi := { dst := some 4, op := Op.load 9 (Operand.tmp 3), type := 9, pos := "kind.go:50", after := #[{ on := 0, ground := Ground.data }], guard := none }) (v := .string nm) rfl (by kernel_rfl) (by kernel_rfl) (by kernel_rfl) (fun _ _ _ h => h) (Or.inl ⟨by rfl, fun w hSw => by (have g0 := hSw.1.c0; go_simp <;> rfl)⟩) hHeld ?_
  try simp only [Act.put, List.setIfInBounds_toArray, List.set_cons_zero, List.set_cons_succ]
  refine wpAnyH_take (i := 2) (oi := { dst := some 5, op := Op.fieldAddr 25 (Operand.tmp 1) 1, type := 0, pos := "kind.go:50", after := #[], guard := none }) (v := .pointer (some ⟨w.heap.size, 1, none⟩)) rfl (by kernel_rfl) (by kernel_rfl) (by kernel_rfl) (fun _ _ _ h => h) (Or.inl ⟨by rfl, fun w hSw => by (go_simp <;> rfl)⟩) hHeld ?_
  try simp only [Act.put, List.setIfInBounds_toArray, List.set_cons_zero, List.set_cons_succ]
  refine wpAnyH_take (i := 3) (oi := { dst := some 6, op := Op.load 23 (Operand.tmp 5), type := 23, pos := "kind.go:50", after := #[{ on := 2, ground := Ground.data }], guard := none }) (v := .slice a len cap) rfl (by kernel_rfl) (by kernel_rfl) (by kernel_rfl) (fun _ _ _ h => h) (Or.inl ⟨by rfl, fun w hSw => by (have g1 := hSw.1.c1; go_simp <;> rfl)⟩) hHeld ?_
  try simp only [Act.put, List.setIfInBounds_toArray, List.set_cons_zero, List.set_cons_succ]
  refine wpAnyH_ready (rs := [4]) (by kernel_rfl) (by simp) (AllReadyH.cons (o := { dst := some 7, op := Op.call { callee := Callee.value (Operand.func 43), args := #[Operand.tmp 6], argTypes := #[23] }, type := 23, pos := "kind.go:50", after := #[{ on := 3, ground := Ground.data }], guard := none }) rfl (fun K4 hK4 => ?_) AllReadyH.nil)
  go_simp
  refine (clone_any a len cap L _ (HV.out.below (hHeld).2.2) HM.out).mono ?_
  rintro e w1 ⟨v1, rfl, hv1, b1⟩
  refine hK4.out _ _ ⟨(hHeld).1.up b1, by obtain ⟨p1, p2, p3, p4, p5⟩ := (hHeld).2.1; exact ⟨p1, p2, p3, p4, p5.up b1⟩, (hHeld).2.2.trans (b1.mono (hHeld).2.2.size)⟩ (fun hHeld4 => ?_)
  obtain ⟨a1, l1, c1, rfl, hv1, hc1⟩ := hv1
  clear hK4 K4
  try simp only [Act.put, List.setIfInBounds_toArray, List.set_cons_zero, List.set_cons_succ]
  refine wpAnyH_take (i := 5) (oi := { dst := some 8, op := Op.build 25 #[(0, Operand.tmp 4), (1, Operand.tmp 7)], type := 25, pos := "kind.go:50", after := #[{ on := 1, ground := Ground.data }, { on := 4, ground := Ground.data }], guard := none }) (v := refV nm a1 l1 c1) rfl (by kernel_rfl) (by kernel_rfl) (by kernel_rfl) (fun _ _ _ h => h) (Or.inl ⟨by rfl, fun w hSw => by (go_simp <;> rfl)⟩) hHeld4 ?_
  try simp only [Act.put, List.setIfInBounds_toArray, List.set_cons_zero, List.set_cons_succ]
  refine wpAnyH_ready (rs := [6]) (by kernel_rfl) (by simp) (AllReadyH.cons (o := { dst := none, op := Op.store 25 (Operand.tmp 2) (Operand.tmp 8), type := 0, pos := "kind.go:50", after := #[{ on := 5, ground := Ground.data }, { on := 4, ground := Ground.chain }, { on := 0, ground := Ground.phase }, { on := 1, ground := Ground.phase }, { on := 2, ground := Ground.phase }, { on := 3, ground := Ground.phase }, { on := 4, ground := Ground.phase }, { on := 5, ground := Ground.phase }], guard := none }) rfl (fun K6 hK6 => ?_) AllReadyH.nil)
  obtain ⟨nx, ax, lx, cx, hbx⟩ := (hHeld4).2.1
  have d0 := hbx.c0
  have d1 := hbx.c1
  have f0 := hbx.fz 0
  have f1 := hbx.fz 1
  have HBX := Lib.hid (hbx.set nm a1 l1 c1)
  have HBL := Lib.hid (below_set (hHeld4).2.2 (Nat.le_succ _) (.string nm) (.slice a1 l1 c1))
  have HV1 := Lib.hid (view_set hv1 hbx (.string nm) (.slice a1 l1 c1))
  unfold refV
  go_simp
  refine hK6.out _ _ ⟨(hHeld4).1.other (by omega) _ _, ⟨_, _, _, _, HBX.out⟩, HBL.out⟩ (fun hHeld6 => ?_)
  clear d0 d1 f0 f1 hbx
  clear hK6 K6
  try simp only [Act.put, List.setIfInBounds_toArray, List.set_cons_zero, List.set_cons_succ]
  refine wpAnyH_done (by kernel_rfl) ?_ _
  clear hHeld hHeld4 hHeld6 b1 hv1
  go_wp2_with fail
  exact ret_row Try.results29 rfl HBX.out rfl ⟨_, rfl, ⟨a1, l1, c1, rfl, HV1.out, hc1⟩, HBL.out⟩
end Go.Proofs.Ytfphejndbnmfeab
