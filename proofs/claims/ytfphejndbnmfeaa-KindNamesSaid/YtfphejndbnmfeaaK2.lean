import Derived.Test.YtfphejndbnmfeaaK1
import Derived.Deep.RegionWith
namespace Go.Proofs.Ytfphejndbnmfeaa
open Go.RowKit

theorem as65_65 (v : Value) (w : World) : (Instr.typeAssert (.iface 61 v) 54 61 true).run Try.prog w = .ok (.tuple #[v, .bool true]) w := by
  simp [Instr.typeAssert, run_underlying Try.underlying61]
theorem as65_69 (v : Value) (w : World) : (Instr.typeAssert (.iface 61 v) 54 58 true).run Try.prog w = .ok (.tuple #[.agg #[.string ⟨#[]⟩, .slice none 0 0], .bool false]) w := by
  simp [Instr.typeAssert, run_underlying Try.underlying58, Try.zeroValue58]
theorem as65_73 (v : Value) (w : World) : (Instr.typeAssert (.iface 61 v) 54 64 true).run Try.prog w = .ok (.tuple #[.agg #[.string ⟨#[]⟩, .slice none 0 0], .bool false]) w := by
  simp [Instr.typeAssert, run_underlying Try.underlying64, Try.zeroValue64]
theorem as69_65 (v : Value) (w : World) : (Instr.typeAssert (.iface 58 v) 54 61 true).run Try.prog w = .ok (.tuple #[.agg #[.string ⟨#[]⟩, .slice none 0 0], .bool false]) w := by
  simp [Instr.typeAssert, run_underlying Try.underlying61, Try.zeroValue61]
theorem as69_69 (v : Value) (w : World) : (Instr.typeAssert (.iface 58 v) 54 58 true).run Try.prog w = .ok (.tuple #[v, .bool true]) w := by
  simp [Instr.typeAssert, run_underlying Try.underlying58]
theorem as69_73 (v : Value) (w : World) : (Instr.typeAssert (.iface 58 v) 54 64 true).run Try.prog w = .ok (.tuple #[.agg #[.string ⟨#[]⟩, .slice none 0 0], .bool false]) w := by
  simp [Instr.typeAssert, run_underlying Try.underlying64, Try.zeroValue64]
theorem as73_65 (v : Value) (w : World) : (Instr.typeAssert (.iface 64 v) 54 61 true).run Try.prog w = .ok (.tuple #[.agg #[.string ⟨#[]⟩, .slice none 0 0], .bool false]) w := by
  simp [Instr.typeAssert, run_underlying Try.underlying61, Try.zeroValue61]
theorem as73_69 (v : Value) (w : World) : (Instr.typeAssert (.iface 64 v) 54 58 true).run Try.prog w = .ok (.tuple #[.agg #[.string ⟨#[]⟩, .slice none 0 0], .bool false]) w := by
  simp [Instr.typeAssert, run_underlying Try.underlying58, Try.zeroValue58]
theorem as73_73 (v : Value) (w : World) : (Instr.typeAssert (.iface 64 v) 54 64 true).run Try.prog w = .ok (.tuple #[v, .bool true]) w := by
  simp [Instr.typeAssert, run_underlying Try.underlying64]
theorem meth69 (v : Value) (w : World) : (method 190 58 v "provost/kind.within").run Try.prog w = .ok (30, v) w := by kernel_rfl
theorem kind0 {L : List Int} (h : L.length = 0) : bad L = false ∧ non L = false ∧ lst L = false ∧ decide (L.length = 0) = true := by
  unfold bad non lst; simp [h]
theorem kind1 {L : List Int} (h : 0 < L.length) (hx : L.getD 0 0 = 1) : bad L = false ∧ non L = true ∧ lst L = false ∧ decide (L.length = 0) = false := by
  unfold bad non lst; rw [hx]; refine ⟨by simp, by simp [h], by simp, by simp; intro e; rw [e] at h; exact absurd h (by simp)⟩
theorem kind2 {L : List Int} (h : 0 < L.length) (hx : L.getD 0 0 = 2) : bad L = false ∧ non L = false ∧ lst L = true ∧ decide (L.length = 0) = false := by
  unfold bad non lst; rw [hx]; refine ⟨by simp, by simp, by simp [h], by simp; intro e; rw [e] at h; exact absurd h (by simp)⟩
theorem kind3 {L : List Int} (h : 0 < L.length) (h1 : L.getD 0 0 ≠ 1) (h2 : L.getD 0 0 ≠ 2) : bad L = true := by
  unfold bad; rw [Bool.and_eq_true, Bool.and_eq_true, bne_iff_ne, bne_iff_ne, decide_eq_true_eq]; exact ⟨⟨h, h1⟩, h2⟩

set_option maxRecDepth 10000 in
set_option maxHeartbeats 4000000 in
theorem fits_any (n1 n2 : ByteArray) (p1 p2 : Option Addr) (m1 q1 m2 q2 : Nat) (A B : List Int) (w : World) (hA : View w p1 m1 A) (hB : View w p2 m2 B) (hq1 : m1 ≤ q1) (hq2 : m2 ≤ q2) :
    Calls Try.prog 11 #[refV n1 p1 m1 q1, refV n2 p2 m2 q2] w fun e w' => e = .returned (.bool (fits n1 A n2 B)) ∧ Below w.heap.size w w' := by
  have hb0 : Box ((w.alloc (.cells #[.string n1, .slice p1 m1 q1] 36)).alloc (.cells #[.string n2, .slice p2 m2 q2] 36)) w.heap.size n1 p1 m1 q1 := by
    have h : Box (w.alloc (.cells #[.string n1, .slice p1 m1 q1] 36)) w.heap.size n1 p1 m1 q1 := heap_alloc_new w _
    exact h.up ((Below.refl _ _).alloc (Nat.le_refl _) _)
  have hb1 : Box ((w.alloc (.cells #[.string n1, .slice p1 m1 q1] 36)).alloc (.cells #[.string n2, .slice p2 m2 q2] 36)) (w.heap.size + 1) n2 p2 m2 q2 := by
    have h := heap_alloc_new (w.alloc (.cells #[.string n1, .slice p1 m1 q1] 36)) (.cells #[.string n2, .slice p2 m2 q2] 36)
    unfold Box; simpa using h
  have hbl : Below w.heap.size w ((w.alloc (.cells #[.string n1, .slice p1 m1 q1] 36)).alloc (.cells #[.string n2, .slice p2 m2 q2] 36)) := ((Below.refl _ w).alloc (Nat.le_refl _) _).alloc (by simp) _
  have H0 := Lib.hid hb0
  have H1 := Lib.hid hb1
  have HBL := Lib.hid hbl
  have HA := Lib.hid hA
  have HB := Lib.hid hB
  have HQ := Lib.hid (And.intro hq1 hq2)
  obtain ⟨res, hres⟩ : ∃ r, r = fits n1 A n2 B := ⟨_, rfl⟩
  rw [← hres]
  have HR := Lib.hid hres
  clear hb0 hb1 hbl hA hB hq1 hq2 hres
  obtain ⟨same, hsame⟩ : ∃ s, s = (n1.toList == n2.toList) := ⟨_, rfl⟩
  have HSM := Lib.hid hsame
  clear hsame
  unfold refV
  go_enter Try.func11, Try.ntmps11
  go_wp2_with fail
  go_loopg [4] (A.length + B.length + 1) (fun f r wr => r = .bool false ∧ ∃ (a1 a2 : Option Addr) (l1 c1 l2 c2 : Nat) (A' B' : List Int), A'.length + B'.length < f ∧ fitsF same f A' B' = res ∧ View w a1 l1 A' ∧ View w a2 l2 B' ∧ l1 ≤ c1 ∧ l2 ≤ c2 ∧ Box wr w.heap.size n1 a1 l1 c1 ∧ Box wr (w.heap.size + 1) n2 a2 l2 c2 ∧ Below w.heap.size w wr)
  case atStart => exact ⟨rfl, p1, p2, m1, q1, m2, q2, A, B, by omega, by rw [HR.out, HSM.out]; rfl, HA.out, HB.out, HQ.out.1, HQ.out.2, H0.out, H1.out, HBL.out⟩
  case round =>
    obtain ⟨rfl, a1, a2, l1, c1, l2, c2, A', B', hlen, hfit, hvA, hvB, hc1, hc2, hx0, hx1, hbw⟩ := hrel
    have HLEN := Lib.hid hlen
    have HVA := Lib.hid hvA
    have HVB := Lib.hid hvB
    have X0wr := Lib.hid hx0
    have X1wr := Lib.hid hx1
    have BLwr := Lib.hid hbw
    have HC := Lib.hid (And.intro hc1 hc2)
    cases gk with
    | zero => exact absurd hlen (Nat.not_lt_zero _)
    | succ g =>
      simp only [fitsF] at hfit
      have HFIT := Lib.hid hfit
      have d10 := hx1.c0
      have d11 := hx1.c1
      clear hlen hfit hc1 hc2 hx0 hx1 hbw hvA hvB
      by_cases hzB : l2 = 0
      · subst hzB
        have KB := Lib.hid (kind0 (L := B') HVB.out.1)
        go_wp2_with fail
        refine (shape_name n2 a2 c2 _).mono ?_
        rintro e w1 ⟨rfl, bbw1⟩
        have X0w1 := Lib.hid (X0wr.out.up bbw1)
        have X1w1 := Lib.hid (X1wr.out.up bbw1)
        have BLw1 := Lib.hid (BLwr.out.trans (bbw1.mono BLwr.out.size))
        clear bbw1
        unfold refV
        clear d10 d11
        have d00 := X0w1.out.c0
        have d01 := X0w1.out.c1
        go_wp2_with fail
        by_cases hzA : l1 = 0
        · subst hzA
          have KA := Lib.hid (kind0 (L := A') HVA.out.1)
          clear d00 d01
          refine (shape_name n1 a1 c1 _).mono ?_
          rintro e w2 ⟨rfl, bbw2⟩
          have X0w2 := Lib.hid (X0w1.out.up bbw2)
          have X1w2 := Lib.hid (X1w1.out.up bbw2)
          have BLw2 := Lib.hid (BLw1.out.trans (bbw2.mono BLw1.out.size))
          clear bbw2
          unfold refV
          have e00 : ∀ o, (w2.alloc o).cell? ⟨w.heap.size, 0, none⟩ = some (.string n1) := fun o => (X0w2.out.up ((Below.refl _ _).alloc (Nat.le_refl _) o)).c0
          have e01 : ∀ o, (w2.alloc o).cell? ⟨w.heap.size, 1, none⟩ = some (.slice a1 0 c1) := fun o => (X0w2.out.up ((Below.refl _ _).alloc (Nat.le_refl _) o)).c1
          have f00 : ∀ o o', ((w2.alloc o).alloc o').cell? ⟨w.heap.size, 0, none⟩ = some (.string n1) := fun o o' => (X0w2.out.up (((Below.refl _ _).alloc (Nat.le_refl _) o).alloc (by simp) o')).c0
          have f01 : ∀ o o', ((w2.alloc o).alloc o').cell? ⟨w.heap.size, 1, none⟩ = some (.slice a1 0 c1) := fun o o' => (X0w2.out.up (((Below.refl _ _).alloc (Nat.le_refl _) o).alloc (by simp) o')).c1
          have t1 := as73_69
          have t2 := as73_65
          have t3 := as73_73
          have t4 := as73_65
          have t5 := as73_73
          go_wp2_with fail
          go_ret
          exact ⟨ret_bool (by rw [← HSM.out]; have h := HFIT.out; rw [KB.out.1, KB.out.2.1, KB.out.2.2.1, KB.out.2.2.2, KA.out.1, KA.out.2.1, KA.out.2.2.1, KA.out.2.2.2] at h; first | exact h | simpa using h), (BLw2.out.alloc BLw2.out.size _).alloc (by have := BLw2.out.size; simp; omega) _⟩
        · obtain ⟨bA, oA, rfl, hbA, hxA⟩ := HVA.out.2 0 (by omega)
          rw [Nat.add_zero] at hxA
          have HLA : Hid (1 ≤ l1) := Lib.hid (by omega)
          have HPA : Hid (0 < A'.length) := Lib.hid (by have := HVA.out.1; omega)
          have HBBA := Lib.hid hbA
          have HXXA := Lib.hid hxA
          clear hbA hxA hzA
          by_cases h1A : A'.getD 0 0 = 1
          · have KA := Lib.hid (kind1 HPA.out h1A)
            have HXVA : Hid (w.cell? ⟨bA, oA, none⟩ = some (.int .u8 1)) := Lib.hid (by rw [HXXA.out, h1A])
            clear h1A
            clear d00 d01
            refine (shape_non n1 bA oA l1 c1 1 _ (by have := BLw1.out.size; have := HBBA.out; omega) ((BLw1.out.cell (p := ⟨bA, oA, none⟩) HBBA.out).trans HXVA.out) HLA.out HC.out.1 rfl).mono ?_
            rintro e w2 ⟨rfl, bbw2⟩
            have X0w2 := Lib.hid (X0w1.out.up bbw2)
            have X1w2 := Lib.hid (X1w1.out.up bbw2)
            have BLw2 := Lib.hid (BLw1.out.trans (bbw2.mono BLw1.out.size))
            clear bbw2
            unfold refV
            have e00 : ∀ o, (w2.alloc o).cell? ⟨w.heap.size, 0, none⟩ = some (.string n1) := fun o => (X0w2.out.up ((Below.refl _ _).alloc (Nat.le_refl _) o)).c0
            have e01 : ∀ o, (w2.alloc o).cell? ⟨w.heap.size, 1, none⟩ = some (.slice (some ⟨bA, oA, none⟩) l1 c1) := fun o => (X0w2.out.up ((Below.refl _ _).alloc (Nat.le_refl _) o)).c1
            have f00 : ∀ o o', ((w2.alloc o).alloc o').cell? ⟨w.heap.size, 0, none⟩ = some (.string n1) := fun o o' => (X0w2.out.up (((Below.refl _ _).alloc (Nat.le_refl _) o).alloc (by simp) o')).c0
            have f01 : ∀ o o', ((w2.alloc o).alloc o').cell? ⟨w.heap.size, 1, none⟩ = some (.slice (some ⟨bA, oA, none⟩) l1 c1) := fun o o' => (X0w2.out.up (((Below.refl _ _).alloc (Nat.le_refl _) o).alloc (by simp) o')).c1
            have t1 := as73_69
            have t2 := as73_65
            have t3 := as73_73
            have t4 := as69_65
            have t5 := as69_73
            go_wp2_with fail
            refine (isNon_any n1 (some ⟨bA, oA, none⟩) l1 c1 A' _ (HVA.out.below ((BLw2.out.alloc BLw2.out.size _).alloc (by have := BLw2.out.size; simp; omega) _))).mono ?_
            rintro e w3 ⟨rfl, bb3⟩
            rw [KA.out.2.1]
            have X0w3 := Lib.hid ((X0w2.out.up (((Below.refl _ _).alloc (Nat.le_refl _) _).alloc (by simp) _)).up bb3)
            have X1w3 := Lib.hid ((X1w2.out.up (((Below.refl _ _).alloc (Nat.le_refl _) _).alloc (by simp) _)).up bb3)
            have BLw3 : Hid (Below w.heap.size w w3) := Lib.hid (((BLw2.out.alloc BLw2.out.size _).alloc (by have := BLw2.out.size; simp; omega) _).trans (bb3.mono (by have := BLw2.out.size; simp; omega)))
            clear e00 e01 f00 f01
            clear bb3
            go_wp2_with fail
            refine (within_non n1 (tl bA oA c1) (l1 - 1) (c1 - 1) _).mono ?_
            rintro e w4 ⟨rfl, bb4⟩
            have x0 := X0w3.out.up bb4
            have X1w4 := Lib.hid (X1w3.out.up bb4)
            have BLw4 : Hid (Below w.heap.size w w4) := Lib.hid (BLw3.out.trans (bb4.mono BLw3.out.size))
            have X0w4 := Lib.hid x0
            have g00 := x0.c0
            have g01 := x0.c1
            have gf0 := x0.fz 0
            have gf1 := x0.fz 1
            unfold refV
            clear bb4 x0
            go_wp2_with fail
            go_roundg g
            case rel => exact ⟨rfl, tl bA oA c1, _, l1 - 1, c1 - 1, _, _, A'.tail, B', by have := HLEN.out; have := HPA.out; rw [List.length_tail]; omega, by have h := HFIT.out; rw [KB.out.1, KB.out.2.1, KB.out.2.2.1, KB.out.2.2.2, KA.out.1, KA.out.2.1, KA.out.2.2.1, KA.out.2.2.2] at h; first | exact h | simpa using h, HVA.out.tail HLA.out HC.out.1, HVB.out, by have := HC.out.1; omega, HC.out.2, X0w4.out.set _ _ _ _, X1w4.out.other (by omega) _ _, below_set BLw4.out (Nat.le_refl _) _ _⟩
            case measure => omega
          · by_cases h2A : A'.getD 0 0 = 2
            · have KA := Lib.hid (kind2 HPA.out h2A)
              have HXVA : Hid (w.cell? ⟨bA, oA, none⟩ = some (.int .u8 2)) := Lib.hid (by rw [HXXA.out, h2A])
              clear h1A h2A
              clear d00 d01
              refine (shape_list n1 bA oA l1 c1 2 _ (by have := BLw1.out.size; have := HBBA.out; omega) ((BLw1.out.cell (p := ⟨bA, oA, none⟩) HBBA.out).trans HXVA.out) HLA.out HC.out.1 rfl).mono ?_
              rintro e w2 ⟨rfl, bbw2⟩
              have X0w2 := Lib.hid (X0w1.out.up bbw2)
              have X1w2 := Lib.hid (X1w1.out.up bbw2)
              have BLw2 := Lib.hid (BLw1.out.trans (bbw2.mono BLw1.out.size))
              clear bbw2
              unfold refV
              have e00 : ∀ o, (w2.alloc o).cell? ⟨w.heap.size, 0, none⟩ = some (.string n1) := fun o => (X0w2.out.up ((Below.refl _ _).alloc (Nat.le_refl _) o)).c0
              have e01 : ∀ o, (w2.alloc o).cell? ⟨w.heap.size, 1, none⟩ = some (.slice (some ⟨bA, oA, none⟩) l1 c1) := fun o => (X0w2.out.up ((Below.refl _ _).alloc (Nat.le_refl _) o)).c1
              have f00 : ∀ o o', ((w2.alloc o).alloc o').cell? ⟨w.heap.size, 0, none⟩ = some (.string n1) := fun o o' => (X0w2.out.up (((Below.refl _ _).alloc (Nat.le_refl _) o).alloc (by simp) o')).c0
              have f01 : ∀ o o', ((w2.alloc o).alloc o').cell? ⟨w.heap.size, 1, none⟩ = some (.slice (some ⟨bA, oA, none⟩) l1 c1) := fun o o' => (X0w2.out.up (((Below.refl _ _).alloc (Nat.le_refl _) o).alloc (by simp) o')).c1
              have t1 := as73_69
              have t2 := as73_65
              have t3 := as73_73
              have t4 := as65_65
              have t5 := as65_73
              go_wp2_with fail
              refine (isNon_any n1 (some ⟨bA, oA, none⟩) l1 c1 A' _ (HVA.out.below ((BLw2.out.alloc BLw2.out.size _).alloc (by have := BLw2.out.size; simp; omega) _))).mono ?_
              rintro e w3 ⟨rfl, bb3⟩
              rw [KA.out.2.1]
              have X0w3 := Lib.hid ((X0w2.out.up (((Below.refl _ _).alloc (Nat.le_refl _) _).alloc (by simp) _)).up bb3)
              have X1w3 := Lib.hid ((X1w2.out.up (((Below.refl _ _).alloc (Nat.le_refl _) _).alloc (by simp) _)).up bb3)
              have BLw3 : Hid (Below w.heap.size w w3) := Lib.hid (((BLw2.out.alloc BLw2.out.size _).alloc (by have := BLw2.out.size; simp; omega) _).trans (bb3.mono (by have := BLw2.out.size; simp; omega)))
              clear e00 e01 f00 f01
              clear bb3
              go_wp2_with fail
              go_ret
              exact ⟨ret_bool (by have h := HFIT.out; rw [KB.out.1, KB.out.2.1, KB.out.2.2.1, KB.out.2.2.2, KA.out.1, KA.out.2.1, KA.out.2.2.1, KA.out.2.2.2] at h; first | exact h | simpa using h), BLw3.out⟩
            · have KA := Lib.hid (kind3 HPA.out h1A h2A)
              have HKA := Lib.hid (And.intro h1A h2A)
              clear h1A h2A
              clear d00 d01
              refine (shape_bad n1 bA oA l1 c1 (A'.getD 0 0) _ (by have := BLw1.out.size; have := HBBA.out; omega) ((BLw1.out.cell (p := ⟨bA, oA, none⟩) HBBA.out).trans HXXA.out) HLA.out HC.out.1 HKA.out.1 HKA.out.2).mono ?_
              rintro e w2 ⟨rfl, bbw2⟩
              have X0w2 := Lib.hid (X0w1.out.up bbw2)
              have X1w2 := Lib.hid (X1w1.out.up bbw2)
              have BLw2 := Lib.hid (BLw1.out.trans (bbw2.mono BLw1.out.size))
              clear bbw2
              unfold refV
              go_wp2_with fail
              go_ret
              exact ⟨ret_bool (by have h := HFIT.out; rw [KB.out.1, KA.out] at h; first | exact h | simpa using h), BLw2.out⟩
      · obtain ⟨bB, oB, rfl, hbB, hxB⟩ := HVB.out.2 0 (by omega)
        rw [Nat.add_zero] at hxB
        have HLB : Hid (1 ≤ l2) := Lib.hid (by omega)
        have HPB : Hid (0 < B'.length) := Lib.hid (by have := HVB.out.1; omega)
        have HBBB := Lib.hid hbB
        have HXXB := Lib.hid hxB
        clear hbB hxB hzB
        by_cases h1B : B'.getD 0 0 = 1
        · have KB := Lib.hid (kind1 HPB.out h1B)
          have HXVB : Hid (w.cell? ⟨bB, oB, none⟩ = some (.int .u8 1)) := Lib.hid (by rw [HXXB.out, h1B])
          clear h1B
          go_wp2_with fail
          refine (shape_non n2 bB oB l2 c2 1 _ (by have := BLwr.out.size; have := HBBB.out; omega) ((BLwr.out.cell (p := ⟨bB, oB, none⟩) HBBB.out).trans HXVB.out) HLB.out HC.out.2 rfl).mono ?_
          rintro e w1 ⟨rfl, bbw1⟩
          have X0w1 := Lib.hid (X0wr.out.up bbw1)
          have X1w1 := Lib.hid (X1wr.out.up bbw1)
          have BLw1 := Lib.hid (BLwr.out.trans (bbw1.mono BLwr.out.size))
          clear bbw1
          unfold refV
          clear d10 d11
          have d00 := X0w1.out.c0
          have d01 := X0w1.out.c1
          go_wp2_with fail
          by_cases hzA : l1 = 0
          · subst hzA
            have KA := Lib.hid (kind0 (L := A') HVA.out.1)
            clear d00 d01
            refine (shape_name n1 a1 c1 _).mono ?_
            rintro e w2 ⟨rfl, bbw2⟩
            have X0w2 := Lib.hid (X0w1.out.up bbw2)
            have X1w2 := Lib.hid (X1w1.out.up bbw2)
            have BLw2 := Lib.hid (BLw1.out.trans (bbw2.mono BLw1.out.size))
            clear bbw2
            unfold refV
            have e00 : ∀ o, (w2.alloc o).cell? ⟨w.heap.size, 0, none⟩ = some (.string n1) := fun o => (X0w2.out.up ((Below.refl _ _).alloc (Nat.le_refl _) o)).c0
            have e01 : ∀ o, (w2.alloc o).cell? ⟨w.heap.size, 1, none⟩ = some (.slice a1 0 c1) := fun o => (X0w2.out.up ((Below.refl _ _).alloc (Nat.le_refl _) o)).c1
            have f00 : ∀ o o', ((w2.alloc o).alloc o').cell? ⟨w.heap.size, 0, none⟩ = some (.string n1) := fun o o' => (X0w2.out.up (((Below.refl _ _).alloc (Nat.le_refl _) o).alloc (by simp) o')).c0
            have f01 : ∀ o o', ((w2.alloc o).alloc o').cell? ⟨w.heap.size, 1, none⟩ = some (.slice a1 0 c1) := fun o o' => (X0w2.out.up (((Below.refl _ _).alloc (Nat.le_refl _) o).alloc (by simp) o')).c1
            have t1 := as69_69
            have t2 := as69_65
            have t3 := as69_73
            have t4 := as73_65
            have t5 := as73_73
            go_wp2_with fail
            refine (isNon_any n1 a1 0 c1 A' _ (HVA.out.below (BLw2.out.alloc BLw2.out.size _))).mono ?_
            rintro e w3 ⟨rfl, bb3⟩
            rw [KA.out.2.1]
            have X0w3 := Lib.hid ((X0w2.out.up ((Below.refl _ _).alloc (Nat.le_refl _) _)).up bb3)
            have X1w3 := Lib.hid ((X1w2.out.up ((Below.refl _ _).alloc (Nat.le_refl _) _)).up bb3)
            have BLw3 : Hid (Below w.heap.size w w3) := Lib.hid ((BLw2.out.alloc BLw2.out.size _).trans (bb3.mono (by have := BLw2.out.size; simp; omega)))
            clear e00 e01 f00 f01
            clear bb3
            go_wp2_with fail
            go_ret
            exact ⟨ret_bool (by have h := HFIT.out; rw [KB.out.1, KB.out.2.1, KB.out.2.2.1, KB.out.2.2.2, KA.out.1, KA.out.2.1, KA.out.2.2.1, KA.out.2.2.2] at h; first | exact h | simpa using h), BLw3.out⟩
          · obtain ⟨bA, oA, rfl, hbA, hxA⟩ := HVA.out.2 0 (by omega)
            rw [Nat.add_zero] at hxA
            have HLA : Hid (1 ≤ l1) := Lib.hid (by omega)
            have HPA : Hid (0 < A'.length) := Lib.hid (by have := HVA.out.1; omega)
            have HBBA := Lib.hid hbA
            have HXXA := Lib.hid hxA
            clear hbA hxA hzA
            by_cases h1A : A'.getD 0 0 = 1
            · have KA := Lib.hid (kind1 HPA.out h1A)
              have HXVA : Hid (w.cell? ⟨bA, oA, none⟩ = some (.int .u8 1)) := Lib.hid (by rw [HXXA.out, h1A])
              clear h1A
              clear d00 d01
              refine (shape_non n1 bA oA l1 c1 1 _ (by have := BLw1.out.size; have := HBBA.out; omega) ((BLw1.out.cell (p := ⟨bA, oA, none⟩) HBBA.out).trans HXVA.out) HLA.out HC.out.1 rfl).mono ?_
              rintro e w2 ⟨rfl, bbw2⟩
              have X0w2 := Lib.hid (X0w1.out.up bbw2)
              have X1w2 := Lib.hid (X1w1.out.up bbw2)
              have BLw2 := Lib.hid (BLw1.out.trans (bbw2.mono BLw1.out.size))
              clear bbw2
              unfold refV
              have e00 : ∀ o, (w2.alloc o).cell? ⟨w.heap.size, 0, none⟩ = some (.string n1) := fun o => (X0w2.out.up ((Below.refl _ _).alloc (Nat.le_refl _) o)).c0
              have e01 : ∀ o, (w2.alloc o).cell? ⟨w.heap.size, 1, none⟩ = some (.slice (some ⟨bA, oA, none⟩) l1 c1) := fun o => (X0w2.out.up ((Below.refl _ _).alloc (Nat.le_refl _) o)).c1
              have f00 : ∀ o o', ((w2.alloc o).alloc o').cell? ⟨w.heap.size, 0, none⟩ = some (.string n1) := fun o o' => (X0w2.out.up (((Below.refl _ _).alloc (Nat.le_refl _) o).alloc (by simp) o')).c0
              have f01 : ∀ o o', ((w2.alloc o).alloc o').cell? ⟨w.heap.size, 1, none⟩ = some (.slice (some ⟨bA, oA, none⟩) l1 c1) := fun o o' => (X0w2.out.up (((Below.refl _ _).alloc (Nat.le_refl _) o).alloc (by simp) o')).c1
              have t1 := as69_69
              have t2 := as69_65
              have t3 := as69_73
              have t4 := as69_65
              have t5 := as69_73
              go_wp2_with fail
              refine (isNon_any n1 (some ⟨bA, oA, none⟩) l1 c1 A' _ (HVA.out.below (BLw2.out.alloc BLw2.out.size _))).mono ?_
              rintro e w3 ⟨rfl, bb3⟩
              rw [KA.out.2.1]
              have X0w3 := Lib.hid ((X0w2.out.up ((Below.refl _ _).alloc (Nat.le_refl _) _)).up bb3)
              have X1w3 := Lib.hid ((X1w2.out.up ((Below.refl _ _).alloc (Nat.le_refl _) _)).up bb3)
              have BLw3 : Hid (Below w.heap.size w w3) := Lib.hid ((BLw2.out.alloc BLw2.out.size _).trans (bb3.mono (by have := BLw2.out.size; simp; omega)))
              clear e00 e01 f00 f01
              have T8 : Hid (w3.heap[w2.heap.size]? = some (.cells #[.string n2, .slice (tl bB oB c2) (l2 - 1) (c2 - 1)] 58)) := Lib.hid (by rw [bb3.block w2.heap.size (by simp)]; exact heap_alloc_new w2 _)
              have p0 : w3.drew.cell? ⟨w2.heap.size, 0, none⟩ = some (.string n2) := by show w3.cell? _ = _; simp [World.cell?, T8.out]
              have p1 : w3.drew.cell? ⟨w2.heap.size, 1, none⟩ = some (.slice (tl bB oB c2) (l2 - 1) (c2 - 1)) := by show w3.cell? _ = _; simp [World.cell?, T8.out]
              have HT8 : Hid (w2.heap.size < w3.heap.size) := Lib.hid (Array.getElem?_eq_some_iff.1 T8.out).1
              have hlt2 : w.heap.size + 1 < w2.heap.size := X1w2.out.lt
              have y1 : ¬ w.heap.size = w2.heap.size := by omega
              have y3 : ¬ w.heap.size + 1 = w2.heap.size := by omega
              have y5 : ¬ w2.heap.size = w.heap.size := by omega
              have y7 : ¬ w2.heap.size = w.heap.size + 1 := by omega
              clear hlt2 bb3
              have X0d : Hid (Box w3.drew w.heap.size n1 (some ⟨bA, oA, none⟩) l1 c1) := X0w3
              have X1d : Hid (Box w3.drew (w.heap.size + 1) n2 (some ⟨bB, oB, none⟩) l2 c2) := X1w3
              have mt := meth69
              go_wp2_with fail
              go_region_with (go_at_call 30; refine (within_non n1 (tl bA oA c1) (l1 - 1) (c1 - 1) _).mono ?_; rintro e w4 ⟨rfl, bb4⟩; unfold refV; have u0 := X0d.out.up bb4; have u1 := X1d.out.up bb4; have k00 := u0.c0; have k01 := u0.c1; have k10 := u1.c0; have k11 := u1.c1; have kf0 := u0.fz; have kf1 := u1.fz; have p40 : w4.cell? ⟨w2.heap.size, 0, none⟩ = some (.string n2) := (bb4.cell (p := ⟨w2.heap.size, 0, none⟩) HT8.out).trans p0; have p41 : w4.cell? ⟨w2.heap.size, 1, none⟩ = some (.slice (tl bB oB c2) (l2 - 1) (c2 - 1)) := (bb4.cell (p := ⟨w2.heap.size, 1, none⟩) HT8.out).trans p1)
              all_goals (go_wp2_with fail)
              all_goals (go_roundg g)
              case rel =>
                have bl : Below w.heap.size w w4 := BLw3.out.drew.trans (bb4.mono BLw3.out.size)
                have hres : fitsF same g A'.tail B'.tail = res := by have h := HFIT.out; rw [KB.out.1, KB.out.2.1, KB.out.2.2.1, KB.out.2.2.2, KA.out.1, KA.out.2.1, KA.out.2.2.1, KA.out.2.2.2] at h; first | exact h | simpa using h
                have hln : A'.tail.length + B'.tail.length < g := by have := HLEN.out; have := HPA.out; have := HPB.out; rw [List.length_tail, List.length_tail]; omega
                have hv1 := HVA.out.tail HLA.out HC.out.1
                have hv2 := HVB.out.tail HLB.out HC.out.2
                have hq1 : l1 - 1 ≤ c1 - 1 := by have := HC.out.1; omega
                have hq2 : l2 - 1 ≤ c2 - 1 := by have := HC.out.2; omega
                first
                | exact ⟨rfl, tl bA oA c1, tl bB oB c2, l1 - 1, c1 - 1, l2 - 1, c2 - 1, A'.tail, B'.tail, hln, hres, hv1, hv2, hq1, hq2, (u0.set _ _ _ _).other (by omega) _ _, (u1.other (by omega) _ _).set _ _ _ _, below_set (below_set bl (Nat.le_refl _) _ _) (Nat.le_succ _) _ _⟩
                | exact ⟨rfl, tl bA oA c1, tl bB oB c2, l1 - 1, c1 - 1, l2 - 1, c2 - 1, A'.tail, B'.tail, hln, hres, hv1, hv2, hq1, hq2, (u0.other (by omega) _ _).set _ _ _ _, (u1.set _ _ _ _).other (by omega) _ _, below_set (below_set bl (Nat.le_succ _) _ _) (Nat.le_refl _) _ _⟩
              case measure => omega
              case rel =>
                have bl : Below w.heap.size w w4 := BLw3.out.drew.trans (bb4.mono BLw3.out.size)
                have hres : fitsF same g A'.tail B'.tail = res := by have h := HFIT.out; rw [KB.out.1, KB.out.2.1, KB.out.2.2.1, KB.out.2.2.2, KA.out.1, KA.out.2.1, KA.out.2.2.1, KA.out.2.2.2] at h; first | exact h | simpa using h
                have hln : A'.tail.length + B'.tail.length < g := by have := HLEN.out; have := HPA.out; have := HPB.out; rw [List.length_tail, List.length_tail]; omega
                have hv1 := HVA.out.tail HLA.out HC.out.1
                have hv2 := HVB.out.tail HLB.out HC.out.2
                have hq1 : l1 - 1 ≤ c1 - 1 := by have := HC.out.1; omega
                have hq2 : l2 - 1 ≤ c2 - 1 := by have := HC.out.2; omega
                first
                | exact ⟨rfl, tl bA oA c1, tl bB oB c2, l1 - 1, c1 - 1, l2 - 1, c2 - 1, A'.tail, B'.tail, hln, hres, hv1, hv2, hq1, hq2, (u0.set _ _ _ _).other (by omega) _ _, (u1.other (by omega) _ _).set _ _ _ _, below_set (below_set bl (Nat.le_refl _) _ _) (Nat.le_succ _) _ _⟩
                | exact ⟨rfl, tl bA oA c1, tl bB oB c2, l1 - 1, c1 - 1, l2 - 1, c2 - 1, A'.tail, B'.tail, hln, hres, hv1, hv2, hq1, hq2, (u0.other (by omega) _ _).set _ _ _ _, (u1.set _ _ _ _).other (by omega) _ _, below_set (below_set bl (Nat.le_succ _) _ _) (Nat.le_refl _) _ _⟩
              case measure => omega
              case rel =>
                have bl : Below w.heap.size w w4 := BLw3.out.drew.trans (bb4.mono BLw3.out.size)
                have hres : fitsF same g A'.tail B'.tail = res := by have h := HFIT.out; rw [KB.out.1, KB.out.2.1, KB.out.2.2.1, KB.out.2.2.2, KA.out.1, KA.out.2.1, KA.out.2.2.1, KA.out.2.2.2] at h; first | exact h | simpa using h
                have hln : A'.tail.length + B'.tail.length < g := by have := HLEN.out; have := HPA.out; have := HPB.out; rw [List.length_tail, List.length_tail]; omega
                have hv1 := HVA.out.tail HLA.out HC.out.1
                have hv2 := HVB.out.tail HLB.out HC.out.2
                have hq1 : l1 - 1 ≤ c1 - 1 := by have := HC.out.1; omega
                have hq2 : l2 - 1 ≤ c2 - 1 := by have := HC.out.2; omega
                first
                | exact ⟨rfl, tl bA oA c1, tl bB oB c2, l1 - 1, c1 - 1, l2 - 1, c2 - 1, A'.tail, B'.tail, hln, hres, hv1, hv2, hq1, hq2, (u0.set _ _ _ _).other (by omega) _ _, (u1.other (by omega) _ _).set _ _ _ _, below_set (below_set bl (Nat.le_refl _) _ _) (Nat.le_succ _) _ _⟩
                | exact ⟨rfl, tl bA oA c1, tl bB oB c2, l1 - 1, c1 - 1, l2 - 1, c2 - 1, A'.tail, B'.tail, hln, hres, hv1, hv2, hq1, hq2, (u0.other (by omega) _ _).set _ _ _ _, (u1.set _ _ _ _).other (by omega) _ _, below_set (below_set bl (Nat.le_succ _) _ _) (Nat.le_refl _) _ _⟩
              case measure => omega
            · by_cases h2A : A'.getD 0 0 = 2
              · have KA := Lib.hid (kind2 HPA.out h2A)
                have HXVA : Hid (w.cell? ⟨bA, oA, none⟩ = some (.int .u8 2)) := Lib.hid (by rw [HXXA.out, h2A])
                clear h1A h2A
                clear d00 d01
                refine (shape_list n1 bA oA l1 c1 2 _ (by have := BLw1.out.size; have := HBBA.out; omega) ((BLw1.out.cell (p := ⟨bA, oA, none⟩) HBBA.out).trans HXVA.out) HLA.out HC.out.1 rfl).mono ?_
                rintro e w2 ⟨rfl, bbw2⟩
                have X0w2 := Lib.hid (X0w1.out.up bbw2)
                have X1w2 := Lib.hid (X1w1.out.up bbw2)
                have BLw2 := Lib.hid (BLw1.out.trans (bbw2.mono BLw1.out.size))
                clear bbw2
                unfold refV
                have e00 : ∀ o, (w2.alloc o).cell? ⟨w.heap.size, 0, none⟩ = some (.string n1) := fun o => (X0w2.out.up ((Below.refl _ _).alloc (Nat.le_refl _) o)).c0
                have e01 : ∀ o, (w2.alloc o).cell? ⟨w.heap.size, 1, none⟩ = some (.slice (some ⟨bA, oA, none⟩) l1 c1) := fun o => (X0w2.out.up ((Below.refl _ _).alloc (Nat.le_refl _) o)).c1
                have f00 : ∀ o o', ((w2.alloc o).alloc o').cell? ⟨w.heap.size, 0, none⟩ = some (.string n1) := fun o o' => (X0w2.out.up (((Below.refl _ _).alloc (Nat.le_refl _) o).alloc (by simp) o')).c0
                have f01 : ∀ o o', ((w2.alloc o).alloc o').cell? ⟨w.heap.size, 1, none⟩ = some (.slice (some ⟨bA, oA, none⟩) l1 c1) := fun o o' => (X0w2.out.up (((Below.refl _ _).alloc (Nat.le_refl _) o).alloc (by simp) o')).c1
                have t1 := as69_69
                have t2 := as69_65
                have t3 := as69_73
                have t4 := as65_65
                have t5 := as65_73
                go_wp2_with fail
                refine (isNon_any n1 (some ⟨bA, oA, none⟩) l1 c1 A' _ (HVA.out.below (BLw2.out.alloc BLw2.out.size _))).mono ?_
                rintro e w3 ⟨rfl, bb3⟩
                rw [KA.out.2.1]
                have X0w3 := Lib.hid ((X0w2.out.up ((Below.refl _ _).alloc (Nat.le_refl _) _)).up bb3)
                have X1w3 := Lib.hid ((X1w2.out.up ((Below.refl _ _).alloc (Nat.le_refl _) _)).up bb3)
                have BLw3 : Hid (Below w.heap.size w w3) := Lib.hid ((BLw2.out.alloc BLw2.out.size _).trans (bb3.mono (by have := BLw2.out.size; simp; omega)))
                clear e00 e01 f00 f01
                clear bb3
                go_wp2_with fail
                go_ret
                exact ⟨ret_bool (by have h := HFIT.out; rw [KB.out.1, KB.out.2.1, KB.out.2.2.1, KB.out.2.2.2, KA.out.1, KA.out.2.1, KA.out.2.2.1, KA.out.2.2.2] at h; first | exact h | simpa using h), BLw3.out⟩
              · have KA := Lib.hid (kind3 HPA.out h1A h2A)
                have HKA := Lib.hid (And.intro h1A h2A)
                clear h1A h2A
                clear d00 d01
                refine (shape_bad n1 bA oA l1 c1 (A'.getD 0 0) _ (by have := BLw1.out.size; have := HBBA.out; omega) ((BLw1.out.cell (p := ⟨bA, oA, none⟩) HBBA.out).trans HXXA.out) HLA.out HC.out.1 HKA.out.1 HKA.out.2).mono ?_
                rintro e w2 ⟨rfl, bbw2⟩
                have X0w2 := Lib.hid (X0w1.out.up bbw2)
                have X1w2 := Lib.hid (X1w1.out.up bbw2)
                have BLw2 := Lib.hid (BLw1.out.trans (bbw2.mono BLw1.out.size))
                clear bbw2
                unfold refV
                go_wp2_with fail
                go_ret
                exact ⟨ret_bool (by have h := HFIT.out; rw [KB.out.1, KA.out] at h; first | exact h | simpa using h), BLw2.out⟩
        · by_cases h2B : B'.getD 0 0 = 2
          · have KB := Lib.hid (kind2 HPB.out h2B)
            have HXVB : Hid (w.cell? ⟨bB, oB, none⟩ = some (.int .u8 2)) := Lib.hid (by rw [HXXB.out, h2B])
            clear h1B h2B
            go_wp2_with fail
            refine (shape_list n2 bB oB l2 c2 2 _ (by have := BLwr.out.size; have := HBBB.out; omega) ((BLwr.out.cell (p := ⟨bB, oB, none⟩) HBBB.out).trans HXVB.out) HLB.out HC.out.2 rfl).mono ?_
            rintro e w1 ⟨rfl, bbw1⟩
            have X0w1 := Lib.hid (X0wr.out.up bbw1)
            have X1w1 := Lib.hid (X1wr.out.up bbw1)
            have BLw1 := Lib.hid (BLwr.out.trans (bbw1.mono BLwr.out.size))
            clear bbw1
            unfold refV
            clear d10 d11
            have d00 := X0w1.out.c0
            have d01 := X0w1.out.c1
            go_wp2_with fail
            by_cases hzA : l1 = 0
            · subst hzA
              have KA := Lib.hid (kind0 (L := A') HVA.out.1)
              clear d00 d01
              refine (shape_name n1 a1 c1 _).mono ?_
              rintro e w2 ⟨rfl, bbw2⟩
              have X0w2 := Lib.hid (X0w1.out.up bbw2)
              have X1w2 := Lib.hid (X1w1.out.up bbw2)
              have BLw2 := Lib.hid (BLw1.out.trans (bbw2.mono BLw1.out.size))
              clear bbw2
              unfold refV
              have e00 : ∀ o, (w2.alloc o).cell? ⟨w.heap.size, 0, none⟩ = some (.string n1) := fun o => (X0w2.out.up ((Below.refl _ _).alloc (Nat.le_refl _) o)).c0
              have e01 : ∀ o, (w2.alloc o).cell? ⟨w.heap.size, 1, none⟩ = some (.slice a1 0 c1) := fun o => (X0w2.out.up ((Below.refl _ _).alloc (Nat.le_refl _) o)).c1
              have f00 : ∀ o o', ((w2.alloc o).alloc o').cell? ⟨w.heap.size, 0, none⟩ = some (.string n1) := fun o o' => (X0w2.out.up (((Below.refl _ _).alloc (Nat.le_refl _) o).alloc (by simp) o')).c0
              have f01 : ∀ o o', ((w2.alloc o).alloc o').cell? ⟨w.heap.size, 1, none⟩ = some (.slice a1 0 c1) := fun o o' => (X0w2.out.up (((Below.refl _ _).alloc (Nat.le_refl _) o).alloc (by simp) o')).c1
              have t1 := as65_69
              have t2 := as65_65
              have t3 := as65_73
              have t4 := as73_65
              have t5 := as73_73
              go_wp2_with fail
              refine (isNon_any n1 a1 0 c1 A' _ (HVA.out.below ((BLw2.out.alloc BLw2.out.size _).alloc (by have := BLw2.out.size; simp; omega) _))).mono ?_
              rintro e w3 ⟨rfl, bb3⟩
              rw [KA.out.2.1]
              have X0w3 := Lib.hid ((X0w2.out.up (((Below.refl _ _).alloc (Nat.le_refl _) _).alloc (by simp) _)).up bb3)
              have X1w3 := Lib.hid ((X1w2.out.up (((Below.refl _ _).alloc (Nat.le_refl _) _).alloc (by simp) _)).up bb3)
              have BLw3 : Hid (Below w.heap.size w w3) := Lib.hid (((BLw2.out.alloc BLw2.out.size _).alloc (by have := BLw2.out.size; simp; omega) _).trans (bb3.mono (by have := BLw2.out.size; simp; omega)))
              clear e00 e01 f00 f01
              clear bb3
              go_wp2_with fail
              go_ret
              exact ⟨ret_bool (by have h := HFIT.out; rw [KB.out.1, KB.out.2.1, KB.out.2.2.1, KB.out.2.2.2, KA.out.1, KA.out.2.1, KA.out.2.2.1, KA.out.2.2.2] at h; first | exact h | simpa using h), BLw3.out⟩
            · obtain ⟨bA, oA, rfl, hbA, hxA⟩ := HVA.out.2 0 (by omega)
              rw [Nat.add_zero] at hxA
              have HLA : Hid (1 ≤ l1) := Lib.hid (by omega)
              have HPA : Hid (0 < A'.length) := Lib.hid (by have := HVA.out.1; omega)
              have HBBA := Lib.hid hbA
              have HXXA := Lib.hid hxA
              clear hbA hxA hzA
              by_cases h1A : A'.getD 0 0 = 1
              · have KA := Lib.hid (kind1 HPA.out h1A)
                have HXVA : Hid (w.cell? ⟨bA, oA, none⟩ = some (.int .u8 1)) := Lib.hid (by rw [HXXA.out, h1A])
                clear h1A
                clear d00 d01
                refine (shape_non n1 bA oA l1 c1 1 _ (by have := BLw1.out.size; have := HBBA.out; omega) ((BLw1.out.cell (p := ⟨bA, oA, none⟩) HBBA.out).trans HXVA.out) HLA.out HC.out.1 rfl).mono ?_
                rintro e w2 ⟨rfl, bbw2⟩
                have X0w2 := Lib.hid (X0w1.out.up bbw2)
                have X1w2 := Lib.hid (X1w1.out.up bbw2)
                have BLw2 := Lib.hid (BLw1.out.trans (bbw2.mono BLw1.out.size))
                clear bbw2
                unfold refV
                have e00 : ∀ o, (w2.alloc o).cell? ⟨w.heap.size, 0, none⟩ = some (.string n1) := fun o => (X0w2.out.up ((Below.refl _ _).alloc (Nat.le_refl _) o)).c0
                have e01 : ∀ o, (w2.alloc o).cell? ⟨w.heap.size, 1, none⟩ = some (.slice (some ⟨bA, oA, none⟩) l1 c1) := fun o => (X0w2.out.up ((Below.refl _ _).alloc (Nat.le_refl _) o)).c1
                have f00 : ∀ o o', ((w2.alloc o).alloc o').cell? ⟨w.heap.size, 0, none⟩ = some (.string n1) := fun o o' => (X0w2.out.up (((Below.refl _ _).alloc (Nat.le_refl _) o).alloc (by simp) o')).c0
                have f01 : ∀ o o', ((w2.alloc o).alloc o').cell? ⟨w.heap.size, 1, none⟩ = some (.slice (some ⟨bA, oA, none⟩) l1 c1) := fun o o' => (X0w2.out.up (((Below.refl _ _).alloc (Nat.le_refl _) o).alloc (by simp) o')).c1
                have t1 := as65_69
                have t2 := as65_65
                have t3 := as65_73
                have t4 := as69_65
                have t5 := as69_73
                go_wp2_with fail
                refine (isNon_any n1 (some ⟨bA, oA, none⟩) l1 c1 A' _ (HVA.out.below ((BLw2.out.alloc BLw2.out.size _).alloc (by have := BLw2.out.size; simp; omega) _))).mono ?_
                rintro e w3 ⟨rfl, bb3⟩
                rw [KA.out.2.1]
                have X0w3 := Lib.hid ((X0w2.out.up (((Below.refl _ _).alloc (Nat.le_refl _) _).alloc (by simp) _)).up bb3)
                have X1w3 := Lib.hid ((X1w2.out.up (((Below.refl _ _).alloc (Nat.le_refl _) _).alloc (by simp) _)).up bb3)
                have BLw3 : Hid (Below w.heap.size w w3) := Lib.hid (((BLw2.out.alloc BLw2.out.size _).alloc (by have := BLw2.out.size; simp; omega) _).trans (bb3.mono (by have := BLw2.out.size; simp; omega)))
                clear e00 e01 f00 f01
                clear bb3
                go_wp2_with fail
                refine (within_non n1 (tl bA oA c1) (l1 - 1) (c1 - 1) _).mono ?_
                rintro e w4 ⟨rfl, bb4⟩
                have x0 := X0w3.out.up bb4
                have X1w4 := Lib.hid (X1w3.out.up bb4)
                have BLw4 : Hid (Below w.heap.size w w4) := Lib.hid (BLw3.out.trans (bb4.mono BLw3.out.size))
                have X0w4 := Lib.hid x0
                have g00 := x0.c0
                have g01 := x0.c1
                have gf0 := x0.fz 0
                have gf1 := x0.fz 1
                unfold refV
                clear bb4 x0
                go_wp2_with fail
                go_roundg g
                case rel => exact ⟨rfl, tl bA oA c1, _, l1 - 1, c1 - 1, _, _, A'.tail, B', by have := HLEN.out; have := HPA.out; rw [List.length_tail]; omega, by have h := HFIT.out; rw [KB.out.1, KB.out.2.1, KB.out.2.2.1, KB.out.2.2.2, KA.out.1, KA.out.2.1, KA.out.2.2.1, KA.out.2.2.2] at h; first | exact h | simpa using h, HVA.out.tail HLA.out HC.out.1, HVB.out, by have := HC.out.1; omega, HC.out.2, X0w4.out.set _ _ _ _, X1w4.out.other (by omega) _ _, below_set BLw4.out (Nat.le_refl _) _ _⟩
                case measure => omega
              · by_cases h2A : A'.getD 0 0 = 2
                · have KA := Lib.hid (kind2 HPA.out h2A)
                  have HXVA : Hid (w.cell? ⟨bA, oA, none⟩ = some (.int .u8 2)) := Lib.hid (by rw [HXXA.out, h2A])
                  clear h1A h2A
                  clear d00 d01
                  refine (shape_list n1 bA oA l1 c1 2 _ (by have := BLw1.out.size; have := HBBA.out; omega) ((BLw1.out.cell (p := ⟨bA, oA, none⟩) HBBA.out).trans HXVA.out) HLA.out HC.out.1 rfl).mono ?_
                  rintro e w2 ⟨rfl, bbw2⟩
                  have X0w2 := Lib.hid (X0w1.out.up bbw2)
                  have X1w2 := Lib.hid (X1w1.out.up bbw2)
                  have BLw2 := Lib.hid (BLw1.out.trans (bbw2.mono BLw1.out.size))
                  clear bbw2
                  unfold refV
                  have e00 : ∀ o, (w2.alloc o).cell? ⟨w.heap.size, 0, none⟩ = some (.string n1) := fun o => (X0w2.out.up ((Below.refl _ _).alloc (Nat.le_refl _) o)).c0
                  have e01 : ∀ o, (w2.alloc o).cell? ⟨w.heap.size, 1, none⟩ = some (.slice (some ⟨bA, oA, none⟩) l1 c1) := fun o => (X0w2.out.up ((Below.refl _ _).alloc (Nat.le_refl _) o)).c1
                  have f00 : ∀ o o', ((w2.alloc o).alloc o').cell? ⟨w.heap.size, 0, none⟩ = some (.string n1) := fun o o' => (X0w2.out.up (((Below.refl _ _).alloc (Nat.le_refl _) o).alloc (by simp) o')).c0
                  have f01 : ∀ o o', ((w2.alloc o).alloc o').cell? ⟨w.heap.size, 1, none⟩ = some (.slice (some ⟨bA, oA, none⟩) l1 c1) := fun o o' => (X0w2.out.up (((Below.refl _ _).alloc (Nat.le_refl _) o).alloc (by simp) o')).c1
                  have t1 := as65_69
                  have t2 := as65_65
                  have t3 := as65_73
                  have t4 := as65_65
                  have t5 := as65_73
                  have m10 : ∀ o o', ((w2.alloc o).alloc o').cell? ⟨w.heap.size + 1, 0, none⟩ = some (.string n2) := fun o o' => (X1w2.out.up (((Below.refl _ _).alloc (Nat.le_refl _) o).alloc (by simp) o')).c0
                  have m11 : ∀ o o', ((w2.alloc o).alloc o').cell? ⟨w.heap.size + 1, 1, none⟩ = some (.slice (some ⟨bB, oB, none⟩) l2 c2) := fun o o' => (X1w2.out.up (((Below.refl _ _).alloc (Nat.le_refl _) o).alloc (by simp) o')).c1
                  have z0 : ∀ o o' i, ((w2.alloc o).alloc o').frozen? ⟨w.heap.size, i, none⟩ = false := fun o o' i => (X0w2.out.up (((Below.refl _ _).alloc (Nat.le_refl _) o).alloc (by simp) o')).fz i
                  have z1 : ∀ o o' i, ((w2.alloc o).alloc o').frozen? ⟨w.heap.size + 1, i, none⟩ = false := fun o o' i => (X1w2.out.up (((Below.refl _ _).alloc (Nat.le_refl _) o).alloc (by simp) o')).fz i
                  have hlt2 : w.heap.size + 1 < w2.heap.size := X1w2.out.lt
                  have y1 : ¬ w.heap.size = w2.heap.size := by omega
                  have y2 : ¬ w.heap.size = w2.heap.size + 1 := by omega
                  have y3 : ¬ w.heap.size + 1 = w2.heap.size := by omega
                  have y4 : ¬ w.heap.size + 1 = w2.heap.size + 1 := by omega
                  have y5 : ¬ w2.heap.size = w.heap.size := by omega
                  have y6 : ¬ w2.heap.size + 1 = w.heap.size := by omega
                  have y7 : ¬ w2.heap.size = w.heap.size + 1 := by omega
                  have y8 : ¬ w2.heap.size + 1 = w.heap.size + 1 := by omega
                  clear hlt2
                  go_wp2_with fail
                  go_region
                  go_wp2_with fail
                  go_roundg g
                  case rel =>
                    have x0 := X0w2.out.up (((Below.refl _ _).alloc (Nat.le_refl _) (.cells #[.string n2, .slice (tl bB oB c2) (l2 - 1) (c2 - 1)] 61)).alloc (by simp) (.cells #[.string n1, .slice (tl bA oA c1) (l1 - 1) (c1 - 1)] 61))
                    have x1 := X1w2.out.up (((Below.refl _ _).alloc (Nat.le_refl _) (.cells #[.string n2, .slice (tl bB oB c2) (l2 - 1) (c2 - 1)] 61)).alloc (by simp) (.cells #[.string n1, .slice (tl bA oA c1) (l1 - 1) (c1 - 1)] 61))
                    have bl : Below w.heap.size w ((w2.alloc (.cells #[.string n2, .slice (tl bB oB c2) (l2 - 1) (c2 - 1)] 61)).alloc (.cells #[.string n1, .slice (tl bA oA c1) (l1 - 1) (c1 - 1)] 61)) := (BLw2.out.alloc BLw2.out.size _).alloc (by have := BLw2.out.size; simp; omega) _
                    exact ⟨rfl, tl bA oA c1, tl bB oB c2, l1 - 1, c1 - 1, l2 - 1, c2 - 1, A'.tail, B'.tail, by have := HLEN.out; have := HPA.out; have := HPB.out; rw [List.length_tail, List.length_tail]; omega, by have h := HFIT.out; rw [KB.out.1, KB.out.2.1, KB.out.2.2.1, KB.out.2.2.2, KA.out.1, KA.out.2.1, KA.out.2.2.1, KA.out.2.2.2] at h; first | exact h | simpa using h, HVA.out.tail HLA.out HC.out.1, HVB.out.tail HLB.out HC.out.2, by have := HC.out.1; omega, by have := HC.out.2; omega, (x0.set _ _ _ _).other (by omega) _ _, (x1.other (by omega) _ _).set _ _ _ _, (below_set (below_set bl (Nat.le_refl _) _ _) (Nat.le_succ _) _ _).drew⟩
                  case measure => omega
                · have KA := Lib.hid (kind3 HPA.out h1A h2A)
                  have HKA := Lib.hid (And.intro h1A h2A)
                  clear h1A h2A
                  clear d00 d01
                  refine (shape_bad n1 bA oA l1 c1 (A'.getD 0 0) _ (by have := BLw1.out.size; have := HBBA.out; omega) ((BLw1.out.cell (p := ⟨bA, oA, none⟩) HBBA.out).trans HXXA.out) HLA.out HC.out.1 HKA.out.1 HKA.out.2).mono ?_
                  rintro e w2 ⟨rfl, bbw2⟩
                  have X0w2 := Lib.hid (X0w1.out.up bbw2)
                  have X1w2 := Lib.hid (X1w1.out.up bbw2)
                  have BLw2 := Lib.hid (BLw1.out.trans (bbw2.mono BLw1.out.size))
                  clear bbw2
                  unfold refV
                  go_wp2_with fail
                  go_ret
                  exact ⟨ret_bool (by have h := HFIT.out; rw [KB.out.1, KA.out] at h; first | exact h | simpa using h), BLw2.out⟩
          · have KB := Lib.hid (kind3 HPB.out h1B h2B)
            have HKB := Lib.hid (And.intro h1B h2B)
            clear h1B h2B
            go_wp2_with fail
            refine (shape_bad n2 bB oB l2 c2 (B'.getD 0 0) _ (by have := BLwr.out.size; have := HBBB.out; omega) ((BLwr.out.cell (p := ⟨bB, oB, none⟩) HBBB.out).trans HXXB.out) HLB.out HC.out.2 HKB.out.1 HKB.out.2).mono ?_
            rintro e w1 ⟨rfl, bbw1⟩
            have X0w1 := Lib.hid (X0wr.out.up bbw1)
            have X1w1 := Lib.hid (X1wr.out.up bbw1)
            have BLw1 := Lib.hid (BLwr.out.trans (bbw1.mono BLwr.out.size))
            clear bbw1
            unfold refV
            clear d10 d11
            go_wp2_with fail
            go_ret
            exact ⟨ret_bool (by have h := HFIT.out; rw [KB.out] at h; first | exact h | simpa using h), BLw1.out⟩
end Go.Proofs.Ytfphejndbnmfeaa
