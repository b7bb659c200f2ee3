import Derived.Test.YtfphejndbnmfeaaK3
namespace Go.Proofs.Ytfphejndbnmfeaa
open Go.RowKit

def bareL (L : List Int) : List Int := if non L then L.tail else L
/-- What Bare gives back. -/
def IsRef (w : World) (nm : ByteArray) (L : List Int) (v : Value) : Prop := ∃ (a : Option Addr) (len cap : Nat), v = refV nm a len cap ∧ View w a len L ∧ len ≤ cap
set_option maxRecDepth 10000 in
theorem bare_any (nm : ByteArray) (a : Option Addr) (len cap : Nat) (L : List Int) (w : World) (hv : View w a len L) (hc : len ≤ cap) :
    Calls Try.prog 12 #[refV nm a len cap] w fun e w' => ∃ v, e = .returned v ∧ IsRef w nm (bareL L) v ∧ Below w.heap.size w w' := by
  have hx1 : Box ((w.alloc (.cells #[.string nm, .slice a len cap] 36)).alloc (.cells #[.string ⟨#[]⟩, .slice none 0 0] 36)) w.heap.size nm a len cap := by
    have h : Box (w.alloc (.cells #[.string nm, .slice a len cap] 36)) w.heap.size nm a len cap := heap_alloc_new w _
    exact h.up ((Below.refl _ _).alloc (Nat.le_refl _) _)
  have hx2 : Box ((w.alloc (.cells #[.string nm, .slice a len cap] 36)).alloc (.cells #[.string ⟨#[]⟩, .slice none 0 0] 36)) (w.heap.size + 1) ⟨#[]⟩ none 0 0 := by
    have h := heap_alloc_new (w.alloc (.cells #[.string nm, .slice a len cap] 36)) (.cells #[.string ⟨#[]⟩, .slice none 0 0] 36)
    unfold Box; simpa using h
  have hbl : Below w.heap.size w ((w.alloc (.cells #[.string nm, .slice a len cap] 36)).alloc (.cells #[.string ⟨#[]⟩, .slice none 0 0] 36)) := ((Below.refl _ w).alloc (Nat.le_refl _) _).alloc (by simp) _
  have HV := Lib.hid hv
  have HC := Lib.hid hc
  unfold refV
  by_cases hz : len = 0
  · subst hz
    have KL := Lib.hid (kind0 (L := L) HV.out.1)
    have X10 := Lib.hid hx1
    have X20 := Lib.hid hx2
    have BL0 := Lib.hid hbl
    clear hv hc hx1 hx2 hbl
    go_enter Try.func12, Try.ntmps12
    go_wp2_with fail
    refine (shape_name nm a cap _).mono ?_
    rintro e w1 ⟨rfl, b1⟩
    have x1 := X10.out.up b1
    have x2 := X20.out.up b1
    have BL1 : Hid (Below w.heap.size w w1) := Lib.hid (BL0.out.trans (b1.mono BL0.out.size))
    clear b1
    unfold refV
    have X11 := Lib.hid x1
    have X21 := Lib.hid x2
    have d0 := x1.c0
    have d1 := x1.c1
    clear x1 x2
    go_wp2_with fail
    refine (isNon_any nm a 0 cap L _ (HV.out.below BL1.out)).mono ?_
    rintro e w2 ⟨rfl, b2⟩
    rw [KL.out.2.1]
    have x1 := X11.out.up b2
    have x2 := X21.out.up b2
    have BL2 : Hid (Below w.heap.size w w2) := Lib.hid (BL1.out.trans (b2.mono BL1.out.size))
    clear b2 d0 d1
    have X12 := Lib.hid x1
    have X22 := Lib.hid x2
    have d0 := x1.c0
    have d1 := x1.c1
    have e0 := x2.c0
    have e1 := x2.c1
    have g0 := x2.fz 0
    have g1 := x2.fz 1
    clear x1 x2
    go_wp2_with fail
    exact ret_row Try.results12 rfl (X22.out.set _ _ _ _) rfl ⟨_, rfl, ⟨a, 0, cap, rfl, by rw [show bareL L = L from by unfold bareL; rw [KL.out.2.1]; rfl]; exact HV.out, HC.out⟩, below_set BL2.out (Nat.le_succ _) _ _⟩
  · obtain ⟨b, off, rfl, hb, hx⟩ := HV.out.2 0 (by omega)
    rw [Nat.add_zero] at hx
    have HL : Hid (1 ≤ len) := Lib.hid (by omega)
    have HP : Hid (0 < L.length) := Lib.hid (by have := HV.out.1; omega)
    have HBB := Lib.hid hb
    have HXX := Lib.hid hx
    have X10 := Lib.hid hx1
    have X20 := Lib.hid hx2
    have BL0 := Lib.hid hbl
    clear hb hx hz hv hc hx1 hx2 hbl
    by_cases h1 : L.getD 0 0 = 1
    · have KL := Lib.hid (kind1 HP.out h1)
      have HXV : Hid (w.cell? ⟨b, off, none⟩ = some (.int .u8 1)) := Lib.hid (by rw [HXX.out, h1])
      clear h1
      go_enter Try.func12, Try.ntmps12
      go_wp2_with fail
      refine (shape_non nm b off len cap 1 _ (by have := BL0.out.size; have := HBB.out; omega) ((BL0.out.cell (p := ⟨b, off, none⟩) HBB.out).trans HXV.out) HL.out HC.out rfl).mono ?_
      rintro e w1 ⟨rfl, b1⟩
      have x1 := X10.out.up b1
      have x2 := X20.out.up b1
      have BL1 : Hid (Below w.heap.size w w1) := Lib.hid (BL0.out.trans (b1.mono BL0.out.size))
      clear b1
      unfold refV
      have X11 := Lib.hid x1
      have X21 := Lib.hid x2
      have d0 := x1.c0
      have d1 := x1.c1
      clear x1 x2
      go_wp2_with fail
      refine (isNon_any nm (some ⟨b, off, none⟩) len cap L _ (HV.out.below BL1.out)).mono ?_
      rintro e w2 ⟨rfl, b2⟩
      rw [KL.out.2.1]
      have x1 := X11.out.up b2
      have x2 := X21.out.up b2
      have BL2 : Hid (Below w.heap.size w w2) := Lib.hid (BL1.out.trans (b2.mono BL1.out.size))
      clear b2 d0 d1
      have X12 := Lib.hid x1
      have X22 := Lib.hid x2
      clear x1 x2
      go_wp2_with fail
      refine (within_non nm (tl b off cap) (len - 1) (cap - 1) _).mono ?_
      rintro e w3 ⟨rfl, b3⟩
      have x2 := X22.out.up b3
      have BL3 : Hid (Below w.heap.size w w3) := Lib.hid (BL2.out.trans (b3.mono BL2.out.size))
      clear b3
      have X23 := Lib.hid x2
      have e0 := x2.c0
      have e1 := x2.c1
      have g0 := x2.fz 0
      have g1 := x2.fz 1
      clear x2
      unfold refV
      go_wp2_with fail
      exact ret_row Try.results12 rfl (X23.out.set _ _ _ _) rfl ⟨_, rfl, ⟨tl b off cap, len - 1, cap - 1, rfl, by rw [show bareL L = L.tail from by unfold bareL; rw [KL.out.2.1]; rfl]; exact HV.out.tail HL.out HC.out, by have := HC.out; omega⟩, below_set BL3.out (Nat.le_succ _) _ _⟩
    · by_cases h2 : L.getD 0 0 = 2
      · have KL := Lib.hid (kind2 HP.out h2)
        have HXV : Hid (w.cell? ⟨b, off, none⟩ = some (.int .u8 2)) := Lib.hid (by rw [HXX.out, h2])
        clear h1 h2
        go_enter Try.func12, Try.ntmps12
        go_wp2_with fail
        refine (shape_list nm b off len cap 2 _ (by have := BL0.out.size; have := HBB.out; omega) ((BL0.out.cell (p := ⟨b, off, none⟩) HBB.out).trans HXV.out) HL.out HC.out rfl).mono ?_
        rintro e w1 ⟨rfl, b1⟩
        have x1 := X10.out.up b1
        have x2 := X20.out.up b1
        have BL1 : Hid (Below w.heap.size w w1) := Lib.hid (BL0.out.trans (b1.mono BL0.out.size))
        clear b1
        unfold refV
        have X11 := Lib.hid x1
        have X21 := Lib.hid x2
        have d0 := x1.c0
        have d1 := x1.c1
        clear x1 x2
        go_wp2_with fail
        refine (isNon_any nm (some ⟨b, off, none⟩) len cap L _ (HV.out.below BL1.out)).mono ?_
        rintro e w2 ⟨rfl, b2⟩
        rw [KL.out.2.1]
        have x1 := X11.out.up b2
        have x2 := X21.out.up b2
        have BL2 : Hid (Below w.heap.size w w2) := Lib.hid (BL1.out.trans (b2.mono BL1.out.size))
        clear b2 d0 d1
        have X12 := Lib.hid x1
        have X22 := Lib.hid x2
        have d0 := x1.c0
        have d1 := x1.c1
        have e0 := x2.c0
        have e1 := x2.c1
        have g0 := x2.fz 0
        have g1 := x2.fz 1
        clear x1 x2
        go_wp2_with fail
        exact ret_row Try.results12 rfl (X22.out.set _ _ _ _) rfl ⟨_, rfl, ⟨(some ⟨b, off, none⟩), len, cap, rfl, by rw [show bareL L = L from by unfold bareL; rw [KL.out.2.1]; rfl]; exact HV.out, HC.out⟩, below_set BL2.out (Nat.le_succ _) _ _⟩
      · have HK := Lib.hid (And.intro h1 h2)
        have KN : Hid (non L = false) := Lib.hid (by unfold non; rw [Bool.and_eq_false_iff]; right; simpa using h1)
        clear h1 h2
        go_enter Try.func12, Try.ntmps12
        go_wp2_with fail
        refine (shape_bad nm b off len cap (L.getD 0 0) _ (by have := BL0.out.size; have := HBB.out; omega) ((BL0.out.cell (p := ⟨b, off, none⟩) HBB.out).trans HXX.out) HL.out HC.out HK.out.1 HK.out.2).mono ?_
        rintro e w1 ⟨rfl, b1⟩
        have x1 := X10.out.up b1
        have x2 := X20.out.up b1
        have BL1 : Hid (Below w.heap.size w w1) := Lib.hid (BL0.out.trans (b1.mono BL0.out.size))
        clear b1
        unfold refV
        have X11 := Lib.hid x1
        have X21 := Lib.hid x2
        have d0 := x1.c0
        have d1 := x1.c1
        have e0 := x2.c0
        have e1 := x2.c1
        have g0 := x2.fz 0
        have g1 := x2.fz 1
        clear x1 x2
        go_wp2_with fail
        exact ret_row Try.results12 rfl (X21.out.set _ _ _ _) rfl ⟨_, rfl, ⟨(some ⟨b, off, none⟩), len, cap, rfl, by rw [show bareL L = L from by unfold bareL; rw [KN.out]; rfl]; exact HV.out, HC.out⟩, below_set BL1.out (Nat.le_succ _) _ _⟩

/-- A variable, or an input, as it is handed on. -/
def inV (nm tn : ByteArray) (a : Option Addr) (l c : Nat) (has : Bool) (da : Option Addr) (dl dc : Nat) (xa : Option Addr) (xl xc : Nat) : Value := .agg #[.string nm, .string tn, .slice a l c, .bool has, .slice da dl dc, .slice xa xl xc]
/-- A literal's first cell's kind, if it has one cell. -/
def DView (w : World) (da : Option Addr) (dl : Nat) (k0 : Int) : Prop := dl = 1 → ∃ b off, da = some ⟨b, off, none⟩ ∧ b < w.heap.size ∧ w.cell? ⟨b, off, none⟩ = some (.int .u8 k0)
theorem DView.below {w w' : World} {da : Option Addr} {dl : Nat} {k0 : Int} (h : DView w da dl k0) (hb : Below w.heap.size w w') : DView w' da dl k0 := fun e => by
  obtain ⟨b, off, h1, h2, h3⟩ := h e
  exact ⟨b, off, h1, by have := hb.size; omega, (hb.cell (p := ⟨b, off, none⟩) h2).trans h3⟩
def hasD (has : Bool) (dl : Nat) (k0 : Int) : Bool := has && !(decide (dl = 1) && (k0 == 0))
set_option maxRecDepth 10000 in
theorem hasDefault_any (nm tn : ByteArray) (a : Option Addr) (l c : Nat) (has : Bool) (da : Option Addr) (dl dc : Nat) (xa : Option Addr) (xl xc : Nat) (k0 : Int) (w : World) (hd : DView w da dl k0) :
    Calls Try.prog 10 #[inV nm tn a l c has da dl dc xa xl xc] w fun e w' => e = .returned (.bool (hasD has dl k0)) ∧ Below w.heap.size w w' := by
  unfold inV
  cases has
  · go_enter Try.func10, Try.ntmps10
    go_wp2_with fail
    go_ret
    exact ⟨rfl, (Below.refl _ w).alloc (Nat.le_refl _) _⟩
  · by_cases h1 : dl = 1
    · subst h1
      obtain ⟨b, off, rfl, hb, hx⟩ := hd rfl
      have hx2 : (w.alloc (.cells #[.string nm, .string tn, .slice a l c, .bool true, .slice (some ⟨b, off, none⟩) 1 dc, .slice xa xl xc] 39)).cell? ⟨b, off, none⟩ = some (.int .u8 k0) := by
        rw [((Below.refl w.heap.size w).alloc (Nat.le_refl _) _).cell (p := ⟨b, off, none⟩) hb]; exact hx
      clear hd hb hx
      go_enter Try.func10, Try.ntmps10
      go_wp2_with fail
      go_ret
      exact ⟨ret_bool (by unfold hasD; simp), (Below.refl _ w).alloc (Nat.le_refl _) _⟩
    · have hne : ((dl : Int) == 1) = false := by simp; omega
      have hr := Lib.hid (show hasD true dl k0 = true by unfold hasD; simp [h1])
      clear hd h1
      go_enter Try.func10, Try.ntmps10
      go_wp2_with fail
      go_ret
      exact ⟨ret_bool hr.out.symm, (Below.refl _ w).alloc (Nat.le_refl _) _⟩
end Go.Proofs.Ytfphejndbnmfeaa
