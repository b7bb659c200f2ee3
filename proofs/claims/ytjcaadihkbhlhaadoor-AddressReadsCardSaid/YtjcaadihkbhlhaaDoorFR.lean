/- What comes in for a law over parts of a URL. -/
import Derived.Test.YtjcaadihkbhlhaaDoorRows
import Derived.Test.YtjcaadihkbhlhaaDoorBB
import Derived.WalkKit
import Derived.ProofKit
import Derived.OpenShut
import Derived.ShutString
import Derived.ChangeOld
import Derived.Below
import Derived.Carry
namespace Go.Proofs.YtjcaadihkbhlhaaDoor
open Go.ChangeShapes Go.WideShapes Go.ChangeAt Go.RowKit

theorem own : ownKnob Tryd.prog.godebug = none := by kernel_rfl
theorem laidOut : laidOutB Tryd.prog = true := by kernel_rfl
theorem csStr : Tryd.prog.cellsOf 9 = 1 := by kernel_rfl
theorem csBool : Tryd.prog.cellsOf 4 = 1 := by kernel_rfl
theorem csAdr : Tryd.prog.cellsOf 24 = 8 := by kernel_rfl
set_option maxRecDepth 20000 in
theorem open_adr {H : Type} {enc : TypeId × Value → H} {W : World} {base : Nat} {sp : Nat → Bool} {held : Bool} {r : Reach} {b0 : Nat} {v : Value} {d : DataW H} {ps : List MemPlace}
    (hv : Value.okWide Tryd.prog W r b0 24 v) (h : DataW.Trod enc Tryd.prog W base sp held 24 v d ps) :
    ∃ (s u h p a q : ByteArray) (hu hq : Bool), v = adV s u h p a q hu hq := by
  simp only [Value.okWide, Tryd.underlying24] at hv
  obtain ⟨cs, rfl, _, _⟩ := hv
  obtain ⟨fuel, hf⟩ := h
  obtain ⟨xs, n, _, _, hl, hn, hf⟩ := DataW.trod_struct Tryd.underlying24 hf
  simp only [Value.cells] at hl hf
  rw [csAdr] at hl
  have hn2 : xs.length = 8 := hn
  match hcs : cs.toList, hl with
  | [v0, v1, v2, v3, v4, v5, v6, v7], _ =>
    rw [hcs] at hf
    have f0 : DataW.trod enc Tryd.prog W base sp held n 9 (([v0, v1, v2, v3, v4, v5, v6, v7].drop 0).take (Tryd.prog.cellsOf 9)) = xs[0]? := hf 0 _ rfl
    have f1 : DataW.trod enc Tryd.prog W base sp held n 9 (([v0, v1, v2, v3, v4, v5, v6, v7].drop 1).take (Tryd.prog.cellsOf 9)) = xs[1]? := hf 1 _ rfl
    have f2 : DataW.trod enc Tryd.prog W base sp held n 9 (([v0, v1, v2, v3, v4, v5, v6, v7].drop 2).take (Tryd.prog.cellsOf 9)) = xs[2]? := hf 2 _ rfl
    have f3 : DataW.trod enc Tryd.prog W base sp held n 9 (([v0, v1, v2, v3, v4, v5, v6, v7].drop 3).take (Tryd.prog.cellsOf 9)) = xs[3]? := hf 3 _ rfl
    have f4 : DataW.trod enc Tryd.prog W base sp held n 9 (([v0, v1, v2, v3, v4, v5, v6, v7].drop 4).take (Tryd.prog.cellsOf 9)) = xs[4]? := hf 4 _ rfl
    have f5 : DataW.trod enc Tryd.prog W base sp held n 9 (([v0, v1, v2, v3, v4, v5, v6, v7].drop 5).take (Tryd.prog.cellsOf 9)) = xs[5]? := hf 5 _ rfl
    have f6 : DataW.trod enc Tryd.prog W base sp held n 4 (([v0, v1, v2, v3, v4, v5, v6, v7].drop 6).take (Tryd.prog.cellsOf 4)) = xs[6]? := hf 6 _ rfl
    have f7 : DataW.trod enc Tryd.prog W base sp held n 4 (([v0, v1, v2, v3, v4, v5, v6, v7].drop 7).take (Tryd.prog.cellsOf 4)) = xs[7]? := hf 7 _ rfl
    rw [csStr] at f0 f1 f2 f3 f4 f5
    rw [csBool] at f6 f7
    rw [List.getElem?_eq_getElem (by omega)] at f0 f1 f2 f3 f4 f5 f6 f7
    obtain ⟨s0, e0, _⟩ := DataW.trod_string Tryd.underlying9 f0
    obtain ⟨s1, e1, _⟩ := DataW.trod_string Tryd.underlying9 f1
    obtain ⟨s2, e2, _⟩ := DataW.trod_string Tryd.underlying9 f2
    obtain ⟨s3, e3, _⟩ := DataW.trod_string Tryd.underlying9 f3
    obtain ⟨s4, e4, _⟩ := DataW.trod_string Tryd.underlying9 f4
    obtain ⟨s5, e5, _⟩ := DataW.trod_string Tryd.underlying9 f5
    obtain ⟨b6, e6, _⟩ := DataW.trod_bool Tryd.underlying4 f6
    obtain ⟨b7, e7, _⟩ := DataW.trod_bool Tryd.underlying4 f7
    simp at e0 e1 e2 e3 e4 e5 e6 e7
    subst e0; subst e1; subst e2; subst e3; subst e4; subst e5; subst e6; subst e7
    refine ⟨s0, s1, s2, s3, s4, s5, b6, b7, ?_⟩
    unfold adV
    rw [show cs = #[.string s0, .string s1, .string s2, .string s3, .string s4, .string s5, .bool b6, .bool b7] from Array.toList_inj.1 hcs]
end Go.Proofs.YtjcaadihkbhlhaaDoor
