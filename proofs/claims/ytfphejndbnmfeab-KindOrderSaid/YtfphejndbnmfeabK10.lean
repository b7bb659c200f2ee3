import Derived.Test.YtfphejndbnmfeabK9
import Derived.Laws.ResultCell
import Derived.Deep.MidRow
namespace Go.Proofs.Ytfphejndbnmfeab
open Go.RowKit

theorem load_box {w : World} {b : Nat} {nm : ByteArray} {a : Option Addr} {l c : Nat} (h : Box w b nm a l c) : (loadVar 25 ⟨b, 0, none⟩).run Try.prog w = .ok (refV nm a l c) w := by
  have := run_loadVar_mid (P := Try.prog) w b 0 25 [.string nm, .slice a l c] _ (fun j v hv => by
    rw [Nat.zero_add, h.cell, ← hv]; simp) Try.underlying25 rfl info25
  simpa [refV] using this
theorem ret12 {R : Ending → World → Prop} {tmps : Array Value} {w : World} {b : Nat} {nm : ByteArray} {a : Option Addr} {l c : Nat} {e : Bool} (h2 : tmps.getD 2 undef = .pointer (some ⟨b, 0, none⟩)) (h3 : tmps.getD 3 undef = .bool e) (ha : Box w b nm a l c)
    (hR : R (.returned (.tuple #[refV nm a l c, .bool e])) w) : bodyPost Try.prog Try.f12 R .ret ⟨tmps, []⟩ w := by
  refine bodyPost_ret (v := .tuple #[refV nm a l c, .bool e]) ?_ rfl hR
  rw [results_cell_tmp (p := 2) (u := 3) (ty := 25) Try.results12, h2, h3]
  simp [asAddr, Result.andThen, load_box ha]
def itemB (L : List Int) : Bool := lst (bareL L)
def itemL (L : List Int) : List Int := if lst (bareL L) then (bareL L).tail else []
def itemN (nm : ByteArray) (L : List Int) : ByteArray := if lst (bareL L) then nm else ⟨#[]⟩
set_option maxRecDepth 10000 in
theorem Item_any (nm : ByteArray) (a : Option Addr) (len cap : Nat) (L : List Int) (w : World) (hv : View w a len L) (hc : len ≤ cap) (hm : len ≤ 1000) :
    Calls Try.prog 12 #[refV nm a len cap] w fun e w' => ∃ v, e = .returned (.tuple #[v, .bool (itemB L)]) ∧ IsRef w' (itemN nm L) (itemL L) v ∧ Below w.heap.size w w' := by
  have hx2 : Box ((w.alloc (.cells #[.string nm, .slice a len cap] 25)).alloc (.cells #[.string ⟨#[]⟩, .slice none 0 0] 25)) (w.heap.size + 1) ⟨#[]⟩ none 0 0 := by
    have h := heap_alloc_new (w.alloc (.cells #[.string nm, .slice a len cap] 25)) (.cells #[.string ⟨#[]⟩, .slice none 0 0] 25)
    unfold Box; simpa using h
  have hbl : Below w.heap.size w ((w.alloc (.cells #[.string nm, .slice a len cap] 25)).alloc (.cells #[.string ⟨#[]⟩, .slice none 0 0] 25)) := ((Below.refl _ w).alloc (Nat.le_refl _) _).alloc (by simp) _
  have HV := Lib.hid hv
  have HM : Hid (len ≤ 1000) := Lib.hid hm
  have HC := Lib.hid hc
  have X2 := Lib.hid hx2
  have BL := Lib.hid hbl
  have HBL := Lib.hid (bareL_len L)
  have HIB : Hid (itemB L = lst (bareL L)) := Lib.hid rfl
  have HIL : Hid (itemL L = if lst (bareL L) then (bareL L).tail else []) := Lib.hid rfl
  have HIN : Hid (itemN nm L = if lst (bareL L) then nm else ⟨#[]⟩) := Lib.hid rfl
  obtain ⟨M, hM⟩ : ∃ M, M = bareL L := ⟨_, rfl⟩
  rw [← hM] at HBL HIB HIL HIN
  have HMM := Lib.hid hM
  obtain ⟨ib, hib⟩ : ∃ ib, ib = itemB L := ⟨_, rfl⟩
  rw [← hib] at HIB ⊢
  clear hx2 hbl hv hm hc hM hib
  unfold refV
  go_enter Try.func12, Try.ntmps12
  go_wp2_with fail
  refine (bare_any nm a len cap L _ (HV.out.below BL.out) HC.out).mono ?_
  rintro e w1 ⟨v1, rfl, hr1, b1⟩
  obtain ⟨a1, l1, c1, rfl, hv1, hc1⟩ := hr1
  rw [← HMM.out] at hv1
  have X21 := Lib.hid (X2.out.up b1)
  have BL1 : Hid (Below w.heap.size w w1) := Lib.hid (BL.out.trans (b1.mono BL.out.size))
  have hv1' := hv1.below b1
  have HV1 := Lib.hid hv1'
  have HC1 := Lib.hid hc1
  clear b1 hv1 hc1
  by_cases hz : l1 = 0
  · subst hz
    have KL := Lib.hid (kind0 (L := M) HV1.out.1)
    clear hv1'
    go_wp2_with fail
    refine (shape_name nm a1 c1 _).mono ?_
    rintro e w2 ⟨rfl, b2⟩
    have hx2 := X21.out.up b2
    have d0 := hx2.c0
    have d1 := hx2.c1
    have f0 := hx2.fz 0
    have f1 := hx2.fz 1
    have X22 := Lib.hid hx2
    have BL2 : Hid (Below w.heap.size w w2) := Lib.hid (BL1.out.trans (b2.mono BL1.out.size))
    have ha := fun v w => as73_65 v w
    have hib : ib = false := by rw [HIB.out, KL.out.2.2.1]
    subst hib
    clear b2 hx2
    go_wp2_with fail
    exact ret12 rfl rfl (X22.out.set _ _ _ _) ⟨_, rfl, ⟨none, 0, 0, by rw [HIN.out, KL.out.2.2.1]; rfl, by rw [HIL.out, KL.out.2.2.1]; exact ⟨rfl, fun k hk => absurd hk (Nat.not_lt_zero k)⟩, Nat.le_refl _⟩, below_set BL2.out (Nat.le_succ _) _ _⟩
  · obtain ⟨b, off, rfl, hb, hx⟩ := hv1'.2 0 (by omega)
    rw [Nat.add_zero] at hx
    have HL : Hid (1 ≤ l1) := Lib.hid (by omega)
    have HP : Hid (0 < M.length) := Lib.hid (by have := hv1'.1; omega)
    have HBB := Lib.hid hb
    have HXX := Lib.hid hx
    clear hb hx hz hv1'
    by_cases h1 : M.getD 0 0 = 1
    · have KL := Lib.hid (kind1 HP.out h1)
      have HXV : Hid (w1.cell? ⟨b, off, none⟩ = some (.int .u8 1)) := Lib.hid (by rw [HXX.out, h1])
      clear h1
      go_wp2_with fail
      refine (shape_non nm b off l1 c1 1 _ HBB.out HXV.out HL.out HC1.out rfl).mono ?_
      rintro e w2 ⟨rfl, b2⟩
      have hx2 := X21.out.up b2
      have d0 := hx2.c0
      have d1 := hx2.c1
      have f0 := hx2.fz 0
      have f1 := hx2.fz 1
      have X22 := Lib.hid hx2
      have BL2 : Hid (Below w.heap.size w w2) := Lib.hid (BL1.out.trans (b2.mono BL1.out.size))
      have ha := fun v w => as69_65 v w
      have hib : ib = false := by rw [HIB.out, KL.out.2.2.1]
      subst hib
      clear b2 hx2
      go_wp2_with fail
      exact ret12 rfl rfl (X22.out.set _ _ _ _) ⟨_, rfl, ⟨none, 0, 0, by rw [HIN.out, KL.out.2.2.1]; rfl, by rw [HIL.out, KL.out.2.2.1]; exact ⟨rfl, fun k hk => absurd hk (Nat.not_lt_zero k)⟩, Nat.le_refl _⟩, below_set BL2.out (Nat.le_succ _) _ _⟩
    · by_cases h2 : M.getD 0 0 = 2
      · have KL := Lib.hid (kind2 HP.out h2)
        have HXV : Hid (w1.cell? ⟨b, off, none⟩ = some (.int .u8 2)) := Lib.hid (by rw [HXX.out, h2])
        clear h1 h2
        go_wp2_with fail
        refine (shape_list nm b off l1 c1 2 _ HBB.out HXV.out HL.out HC1.out rfl).mono ?_
        rintro e w2 ⟨rfl, b2⟩
        have X22 := Lib.hid (X21.out.up b2)
        have BL2 : Hid (Below w.heap.size w w2) := Lib.hid (BL1.out.trans (b2.mono BL1.out.size))
        have HV2 := Lib.hid ((HV1.out.below b2).tail HL.out HC1.out)
        have ha := fun v w => as65_65 v w
        have hib : ib = true := by rw [HIB.out, KL.out.2.2.1]
        subst hib
        clear b2
        obtain ⟨A, hA⟩ : ∃ A, A = tl b off c1 := ⟨_, rfl⟩
        rw [← hA] at HV2 ⊢
        clear hA
        obtain ⟨l2, hl2⟩ : ∃ l2, l2 = l1 - 1 := ⟨_, rfl⟩
        obtain ⟨c2, hc2⟩ : ∃ c2, c2 = c1 - 1 := ⟨_, rfl⟩
        rw [← hl2] at HV2 ⊢
        rw [← hc2]
        have HL2 : Hid (l2 ≤ 1000) := Lib.hid (by have := HV1.out.1; have := HV.out.1; have := HBL.out; have := HM.out; omega)
        clear hl2 hc2
        unfold refV
        go_wp2_with fail
        have BL3 : Hid (Below w.heap.size w (w2.alloc (.cells #[.string nm, .slice A l2 c2] 65))) := Lib.hid (BL2.out.alloc BL2.out.size _)
        have X23 : Hid (Box (w2.alloc (.cells #[.string nm, .slice A l2 c2] 65)) (w.heap.size + 1) ⟨#[]⟩ none 0 0) := Lib.hid (X22.out.up ((Below.refl _ _).alloc (Nat.le_refl _) _))
        refine (twin_any nm A l2 c2 M.tail _ (HV2.out.below ((Below.refl _ _).alloc (Nat.le_refl _) _)) HL2.out).mono ?_
        rintro e w3 ⟨v3, rfl, hr3, b3⟩
        obtain ⟨a3, l3, c3, rfl, hv3, hc3⟩ := hr3
        have hx2 := X23.out.up b3
        have d0 := hx2.c0
        have d1 := hx2.c1
        have f0 := hx2.fz 0
        have f1 := hx2.fz 1
        have X24 := Lib.hid hx2
        have BL4 : Hid (Below w.heap.size w w3) := Lib.hid (BL3.out.trans (b3.mono BL3.out.size))
        have HV3 := Lib.hid hv3
        clear b3 hx2 hv3
        unfold refV
        go_wp2_with fail
        exact ret12 rfl rfl (X24.out.set _ _ _ _) ⟨_, rfl, ⟨a3, l3, c3, by rw [HIN.out, KL.out.2.2.1]; rfl, by rw [HIL.out, KL.out.2.2.1]; exact view_set HV3.out X24.out _ _, hc3⟩, below_set BL4.out (Nat.le_succ _) _ _⟩
      · have HK := Lib.hid (And.intro h1 h2)
        have KN : Hid (lst M = false) := Lib.hid (by unfold lst; rw [Bool.and_eq_false_iff]; right; simpa using h2)
        clear h1 h2
        go_wp2_with fail
        refine (shape_bad nm b off l1 c1 (M.getD 0 0) _ HBB.out HXX.out HL.out HC1.out HK.out.1 HK.out.2).mono ?_
        rintro e w2 ⟨rfl, b2⟩
        have hx2 := X21.out.up b2
        have d0 := hx2.c0
        have d1 := hx2.c1
        have f0 := hx2.fz 0
        have f1 := hx2.fz 1
        have X22 := Lib.hid hx2
        have BL2 : Hid (Below w.heap.size w w2) := Lib.hid (BL1.out.trans (b2.mono BL1.out.size))
        have hib : ib = false := by rw [HIB.out, KN.out]
        subst hib
        clear b2 hx2
        go_wp2_with fail
        exact ret12 rfl rfl (X22.out.set _ _ _ _) ⟨_, rfl, ⟨none, 0, 0, by rw [HIN.out, KN.out]; rfl, by rw [HIL.out, KN.out]; exact ⟨rfl, fun k hk => absurd hk (Nat.not_lt_zero k)⟩, Nat.le_refl _⟩, below_set BL2.out (Nat.le_succ _) _ _⟩
end Go.Proofs.Ytfphejndbnmfeab
