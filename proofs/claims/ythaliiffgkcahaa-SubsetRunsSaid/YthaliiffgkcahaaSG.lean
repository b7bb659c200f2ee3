/- Layer 10: what comes in. -/
import Derived.Test.YthaliiffgkcahaaRows
import Derived.Test.YthaliiffgkcahaaV0
import Derived.Test.YthaliiffgkcahaaS0
import Derived.ProofKit
import Derived.OpenShut
import Derived.ShutString
import Derived.ChangeOld
import Derived.SliceStrings
import Derived.Carry
namespace Go.Proofs.Ythaliiffgkcahaa
open Go.ChangeShapes Go.WideShapes Go.ChangeAt Go.RowKit
def vI : Vw := vSlice (vInt .i64)
def vS : Vw := vSlice (vSlice (vInt .i64))
def vB : Vw := vSlice vBool
theorem oI : Opens Try.prog vI 22 := opens_slice Try.underlying22 (by kernel_rfl) (opens_int Try.underlying3 (by kernel_rfl)) (by decide)
theorem oS : Opens Try.prog vS 23 := opens_slice Try.underlying23 (by kernel_rfl) oI (by decide)
theorem oB : Opens Try.prog vB 24 := opens_slice Try.underlying24 (by kernel_rfl) (opens_bool Try.underlying4 (by kernel_rfl)) (by decide)
theorem oD : Opens Try.prog (vCons vI (vCons vS (vCons vB vNil))) 26 := opens_struct Try.underlying26 (by kernel_rfl) (fopens_cons rfl oI (fopens_cons rfl oS (fopens_cons rfl oB (fopens_nil _ _))))
theorem iv_row {w : World} {a : Option Addr} {L : List Int} (h : rowAt (vInt .i64) w a L) : IV w a L := fun i hi => by
  obtain ⟨b, off, e, hb, es, _, h2, h3⟩ := h i hi
  have h3' : es = [.int .i64 (L[i]'hi)] ∧ (Lit.int .i64 (L[i]'hi)).wf = true := h3
  have h2' := h2 0 (by decide)
  rw [h3'.1] at h2'
  refine ⟨b, off, e, hb, ?_⟩
  have g := gI_get hi
  rw [List.getElem?_eq_getElem hi] at g
  simp only [Option.some.injEq] at g
  have hs : (vInt .i64).size = 1 := rfl
  rw [hs, Nat.mul_one, Nat.add_zero] at h2'
  rw [← g]
  exact h2'
theorem bv_row {w : World} {a : Option Addr} {L : List Bool} (h : rowAt vBool w a L) : BV w a L := fun i hi => by
  obtain ⟨b, off, e, hb, es, _, h2, h3⟩ := h i hi
  have h3' : es = [.bool (L[i]'hi)] := h3
  have h2' := h2 0 (by decide)
  rw [h3'] at h2'
  refine ⟨b, off, e, hb, ?_⟩
  have g := gB_get hi
  rw [List.getElem?_eq_getElem hi] at g
  simp only [Option.some.injEq] at g
  have hs : vBool.size = 1 := rfl
  rw [hs, Nat.mul_one, Nat.add_zero] at h2'
  rw [← g]
  exact h2'
theorem sv_row {w : World} {a : Option Addr} {S : List (List Int)} (h : rowAt vI w a S) : SV w a S := fun i hi => by
  obtain ⟨b, off, e, hb, es, _, h2, h3⟩ := h i hi
  obtain ⟨ad, cp, he, k1, k2, k3, k4⟩ := h3
  have h2' := h2 0 (by decide)
  rw [he] at h2'
  have g := gS_get hi
  rw [List.getElem?_eq_getElem hi] at g
  simp only [Option.some.injEq] at g
  have hs : vI.size = 1 := rfl
  rw [hs, Nat.mul_one, Nat.add_zero] at h2'
  refine ⟨b, off, e, hb, _, h2', ad, cp, ?_, ?_, k2, ?_, ?_⟩
  · rw [← g]; rfl
  · rw [← g]; exact k1
  · rw [← g]; exact iv_row k4
  · rw [← g]; exact k3
theorem open_dfa {H : Type} {enc : TypeId × Value → H} {W : World} {base : Nat} {sp : Nat → Bool} {held : Bool} {r : Reach} {b0 : Nat} {v : Value} {d : DataW H} {ps : List MemPlace}
    (hv : Value.okWide Try.prog W r b0 26 v) (h : DataW.Trod enc Try.prog W base sp held 26 v d ps) : ∃ (a : DA) (x : DF), v = dv a x ∧ DV W a x := by
  simp only [Value.okWide, Try.underlying26] at hv
  obtain ⟨cs, rfl, _, _⟩ := hv
  obtain ⟨fuel, hf⟩ := h
  obtain ⟨⟨C, S, B, u⟩, hd⟩ := oD.2 hf
  obtain ⟨e1, r1, he, _, _, hI, hr1⟩ := hd
  obtain ⟨e2, r2, he2, _, _, hS, hr2⟩ := hr1
  obtain ⟨e3, r3, he3, _, _, hB, hr3⟩ := hr2
  obtain ⟨a0, c0, f0, i1, i2, i3, i4⟩ := hI
  obtain ⟨a1, c1, f1, s1, s2, s3, s4⟩ := hS
  obtain ⟨a2, c2, f2, b1, b2, b3, b4⟩ := hB
  have hr3' : r3 = [] := hr3
  refine ⟨⟨a0, a1, a2, c0, c1, c2⟩, ⟨C, S, B⟩, ?_, iv_row i4, sv_row s4, bv_row b4, i1, s1, b1, i2, s2, b2, i3, s3, b3⟩
  simp only [Value.cells] at he
  rw [he2, he3, hr3', f0, f1, f2] at he
  have hcs : cs = #[.slice a0 C.length c0, .slice a1 S.length c1, .slice a2 B.length c2] := Array.toList_inj.1 he
  subst hcs
  rfl
theorem open_ints' {H : Type} {enc : TypeId × Value → H} {W : World} {base : Nat} {sp : Nat → Bool} {held : Bool} {v : Value} {d : DataW H} {ps : List MemPlace} {a : Option Addr} {n c : Nat} (hv : v = .slice a n c)
    (h : DataW.Trod enc Try.prog W base sp held 22 v d ps) : ∃ L : List Int, n = L.length ∧ IV W a L ∧ L.length ≤ c ∧ c ≤ maxLen ∧ (a = none → L.length = 0 ∧ c = 0) := by
  subst hv
  obtain ⟨fuel, hf⟩ := h
  obtain ⟨L, a', c', he, h1, h2, h3, h4⟩ := oI.2 hf
  simp only [Value.cells] at he
  simp only [List.cons.injEq, Value.slice.injEq, and_true] at he
  obtain ⟨rfl, rfl, rfl⟩ := he
  exact ⟨L, rfl, iv_row h4, h1, h2, h3⟩
end Go.Proofs.Ythaliiffgkcahaa
