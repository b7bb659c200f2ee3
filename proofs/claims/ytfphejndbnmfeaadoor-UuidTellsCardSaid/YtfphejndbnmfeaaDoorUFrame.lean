/- The frame of a tied row over UUIDs: what the table of parts gives the walk; an array of sixteen bytes that comes in. -/
import Derived.Test.YtfphejndbnmfeaaDoorRows
import Derived.Test.YtfphejndbnmfeaaDoorTie
import Derived.Test.YtfphejndbnmfeaaDoorCards
import Derived.Test.YtfphejndbnmfeaaDoorU5
import Derived.Test.YtfphejndbnmfeaaDoorU2
import Derived.WalkKit
import Derived.ProofKit
import Derived.OpenShut
import Derived.LaidMore
import Derived.Stop.Joined
import Derived.SevenTiedAt
import Derived.Lib.LaidTab
import Derived.Carry
namespace Go.Proofs.YtfphejndbnmfeaaDoor
open Go.ChangeShapes Go.WideShapes Go.ChangeAt Go.RowKit

theorem own : ownKnob Tryd.prog.godebug = none := by kernel_rfl
theorem laidOut : laidOutB Tryd.prog = true := by kernel_rfl
theorem gParts : Tryd.prog.globalNamed "provost/uuid.parts" = some 0 := by kernel_rfl
theorem tParts : (Tryd.prog.globals[0]?).map (·.type) = some 83 := by kernel_rfl

/-- The one listed variable: the table of parts. -/
def laid1 : List (String × DataW Unit) := [("provost/uuid.parts", Rows.laid_provost_uuid_parts)]

theorem door_met1 (os : Os) (args : Array Value) : laidMetH Tryd.prog laid1 ((World.doorLaid Tryd.prog 400 os).forCall (fun _ _ => 0) ⟨#[], args, []⟩).memory :=
  laidMetH_of_parts3 (fuel := 8) (laidMet_of_run' 8 (by kernel_rfl) (by kernel_rfl)) (by kernel_rfl) (by kernel_rfl)

theorem facts1 {W : World} (h : laidMetH Tryd.prog laid1 W) : Prt W := by
  rw [MakeChecks.laidMetH_plain _ _ _ (by kernel_rfl)] at h
  have hT := Lib.tabIs_of_head (k := .i64) (zs := [4, 2, 2, 2, 6]) gParts tParts Tryd.underlying83 Tryd.underlying3 (by kernel_rfl) (by kernel_rfl) h
  have h0 := hT.cell gParts 0 (by decide)
  refine ⟨?_, h0, hT.cell gParts 1 (by decide), hT.cell gParts 2 (by decide), hT.cell gParts 3 (by decide), hT.cell gParts 4 (by decide)⟩
  apply Classical.byContradiction
  intro hn
  have : W.heap[0]? = none := Array.getElem?_eq_none (by omega)
  unfold World.cell? at h0
  rw [this] at h0
  cases h0
set_option maxRecDepth 10000
/-- An array of sixteen bytes that comes in. -/
theorem open16 {H : Type} {enc : TypeId × Value → H} {W : World} {base : Nat} {sp : Nat → Bool} {held : Bool} {r : Reach} {b0 : Nat} {v : Value} {d : DataW H} {ps : List MemPlace}
    (hv : Value.okWide Tryd.prog W r b0 50 v) (h : DataW.Trod enc Tryd.prog W base sp held 50 v d ps) : ∃ L : List Int, L.length = 16 ∧ okB L ∧ v = arV L ∧ ps = [] := by
  simp only [Value.okWide, Tryd.underlying50] at hv
  obtain ⟨cs, rfl, h2, _⟩ := hv
  obtain ⟨fuel, hf⟩ := h
  obtain ⟨xs, m, rfl, hx, hl, hn, hi⟩ := DataW.trod_array Tryd.underlying50 hf
  have c50 : Tryd.prog.cellsOf 50 = 16 := by simp only [Program.cellsOf, info50]; rfl
  have c5 : Tryd.prog.cellsOf 5 = 1 := by obtain ⟨i, h1, _, h3, _⟩ := info5; simp [Program.cellsOf, h1, h3]
  simp only [Value.cells] at hl hi
  rw [c50] at hl h2
  rw [c5] at hi
  simp only [Nat.mul_one] at hi
  have hs : cs.toList.length = 16 := hl
  have one : ∀ i, i < 16 → ∃ a, cs.toList[i]? = some (.int .u8 a) ∧ 0 ≤ a ∧ a < 256 ∧ xs[i]? = some (.lit (.int .u8 a), []) := by
    intro i hi16
    have e := hi i hi16
    have hxi : i < xs.length := by omega
    rw [List.getElem?_eq_getElem hxi] at e
    obtain ⟨a, ea, ex, wa⟩ := DataW.trod_int Tryd.underlying5 e
    have ec : (cs.toList.drop i).take 1 = [cs.toList[i]'(by omega)] := by
      rw [List.drop_eq_getElem_cons (by omega)]; rfl
    rw [ec] at ea
    have b := bounds_u8 wa
    simp only [List.cons.injEq, and_true] at ea
    exact ⟨a, by rw [List.getElem?_eq_getElem (by omega), ea], b.1, by omega, by rw [List.getElem?_eq_getElem hxi, ex]⟩
  let f : Nat → Int := fun i => match cs.toList[i]? with | some (.int .u8 a) => a | _ => 0
  have hfv : ∀ i, i < 16 → cs.toList[i]? = some (.int .u8 (f i)) ∧ 0 ≤ f i ∧ f i < 256 := by
    intro i hi16
    obtain ⟨a, h1, h2, h3, _⟩ := one i hi16
    have e : f i = a := by simp only [f, h1]
    rw [e]; exact ⟨h1, h2, h3⟩
  refine ⟨(List.range 16).map f, by simp, fun i => ?_, ?_, ?_⟩
  · by_cases hi16 : i < 16
    · have := hfv i hi16
      simp [List.getD, hi16]; omega
    · have : ((List.range 16).map f).getD i 0 = 0 := by
        rw [List.getD, List.getElem?_eq_none (by simp; omega)]; rfl
      rw [this]; omega
  · refine congrArg Value.agg (?_ : cs = arC ((List.range 16).map f))
    unfold arC
    apply Array.ext_getElem?
    intro i
    by_cases hi16 : i < 16
    · have := (hfv i hi16).1
      rw [Array.getElem?_toList] at this
      simp [this, hi16]
    · rw [Array.getElem?_eq_none (by omega), Array.getElem?_eq_none (by simp; omega)]
  · have hx2 : ps = xs.flatMap (·.2) := by
      simp only [Prod.mk.injEq] at hx; exact hx.2
    rw [hx2, List.flatMap_eq_nil_iff]
    intro x hxm
    obtain ⟨i, hi1, rfl⟩ := List.getElem_of_mem hxm
    obtain ⟨a, _, _, _, e⟩ := one i (by omega)
    rw [List.getElem?_eq_getElem hi1] at e
    simp only [Option.some.injEq] at e
    rw [e]
end Go.Proofs.YtfphejndbnmfeaaDoor
