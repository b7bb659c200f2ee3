import Derived.Test.YtnbmecabnkhniaaDoorK5
import Derived.Test.YtnbmecabnkhniaaDoorRows
import Derived.Test.YtnbmecabnkhniaaDoorTie
import Derived.Test.YtnbmecabnkhniaaDoorCards
import Derived.Test.YtnbmecabnkhniaaDoorK1
import Derived.WalkKit
import Derived.ProofKit
import Derived.OpenShut
import Derived.LaidMore
import Derived.Stop.Joined
import Derived.SevenTiedAt
import Derived.Lib.LaidTab
import Derived.Stop.LaidErr
import Derived.ShutString
import Derived.ChangeOld
import Derived.Carry
/- Layer 17, LexJoins: what comes in; what the listed table gives the walk. -/
namespace Go.Proofs.YtnbmecabnkhniaaDoor
open Go.ChangeShapes Go.WideShapes Go.ChangeAt Go.RowKit
theorem own : ownKnob Tryd.prog.godebug = none := by kernel_rfl
theorem laidOut : laidOutB Tryd.prog = true := by kernel_rfl
def vTok : Vw := vCons (vInt .u8) (vCons zStr (vCons (vInt .i64) vNil))
theorem oStr : OpensZ Tryd.prog zStr 9 := zopens_str Tryd.underlying9 (by kernel_rfl)
set_option maxRecDepth 100000 in
theorem oTok : OpensZ Tryd.prog vTok 31 := zopens_struct Tryd.underlying31 (by kernel_rfl) (zfopens_cons rfl (opens_int Tryd.underlying5 (by kernel_rfl)).z (zfopens_cons rfl oStr (zfopens_cons rfl (opens_int Tryd.underlying3 (by kernel_rfl)).z (zfopens_nil _ _))))
theorem oToks : OpensZ Tryd.prog (zSlice vTok (Tryd.prog.bytesOf 31)) 22 := zopens_slice Tryd.underlying22 (by kernel_rfl) oTok (by decide)
abbrev KD := Int × ByteArray × Int × Unit
def kd0 : KD := (0, ⟨#[]⟩, 0, ())
def toTk (d : KD) : TkR := ⟨d.1, d.2.1, d.2.2.1⟩
theorem tok_es {w : World} {d : KD} {es : List Value} (h : vTok.rd w d es) : es = [.int .u8 (toTk d).k, .string (toTk d).s, .int .i64 (toTk d).a] := by
  obtain ⟨k, s, a, u⟩ := d
  obtain ⟨e1, r1, q1, _, _, ⟨h1, _⟩, k1⟩ := h
  obtain ⟨e2, r2, q2, _, _, ⟨h2, _⟩, k2⟩ := k1
  obtain ⟨e3, r3, q3, _, _, ⟨h3, _⟩, k3⟩ := k2
  have k3' : r3 = [] := k3
  dsimp only at h1 h2 h3
  rw [q1, q2, q3, k3', h1, h2, h3]
  rfl
theorem getD_at {α : Type} (l : List α) (d : α) (i : Nat) (h : i < l.length) : l.getD i d = l[i] := by rw [List.getD_eq_getElem?_getD, List.getElem?_eq_getElem h]; rfl
theorem open_cells {H : Type} {enc : TypeId × Value → H} {W : World} {base : Nat} {sp : Nat → Bool} {held : Bool} {a : Option Addr} {n cap : Nat} {d : DataW H} {ps : List MemPlace} (h : DataW.Trod enc Tryd.prog W base sp held 22 (.slice a n cap) d ps) (hw : Lt Tryd.prog 22 d) : ∃ g : Nat → TkR, TkV W a n g ∧ (n ≤ maxLen ∧ (a = none → cap = 0)) ∧ True := by
  obtain ⟨fuel, hf⟩ := h
  obtain ⟨ds0, hds⟩ := oToks.2 hf hw
  obtain ⟨ds, e0⟩ : ∃ ds : List KD, ds = ds0 := ⟨ds0, rfl⟩
  subst e0
  obtain ⟨a', c, he, h1, h2, h3, _, h5⟩ := hds
  simp only [Value.cells, List.cons.injEq, Value.slice.injEq, and_true] at he
  obtain ⟨rfl, rfl, rfl⟩ := he
  refine ⟨fun i => toTk (ds.getD i kd0), fun i hi => ?_, ⟨Nat.le_trans h1 h2, fun e => (h3 e).2⟩, trivial⟩
  obtain ⟨b, off, e, hb, es, _, hc, hr⟩ := h5 i hi
  have he := tok_es hr
  have hgd : ds.getD i kd0 = ds[i]'hi := getD_at ds kd0 i hi
  show ∃ b off, a = some ⟨b, off, none⟩ ∧ b < W.heap.size ∧ W.cell? ⟨b, off + i * 3, none⟩ = some (.int .u8 (toTk (ds.getD i kd0)).k) ∧ W.cell? ⟨b, off + i * 3 + 1, none⟩ = some (.string (toTk (ds.getD i kd0)).s) ∧ W.cell? ⟨b, off + i * 3 + 2, none⟩ = some (.int .i64 (toTk (ds.getD i kd0)).a)
  rw [hgd]
  rw [he] at hc
  exact ⟨b, off, e, hb, hc 0 (by decide), hc 1 (by decide), hc 2 (by decide)⟩
/-! ### The listed table -/
theorem gLimits : Tryd.prog.globalNamed "provost/whole.limits" = some 1 := by kernel_rfl
def laid1 : List (String × DataW Unit) := [("provost/whole.limits", Rows.laid_provost_whole_limits)]
theorem door_met1 (os : Os) (args : Array Value) : laidMetH Tryd.prog laid1 ((World.doorLaid Tryd.prog 400 os).forCall (fun _ _ => 0) ⟨#[], args, []⟩).memory :=
  laidMetH_of_parts3 (fuel := 8) (laidMet_of_run' 8 (by kernel_rfl) (by kernel_rfl)) (by kernel_rfl) (by kernel_rfl)
theorem facts1 {W : World} (h : laidMetH Tryd.prog laid1 W) : Nm.Lim W := by
  rw [MakeChecks.laidMetH_plain _ _ _ (by kernel_rfl)] at h
  have hT := Lib.tabIs_of_head (k := .u64) (zs := [9223372036854775808, 9223372036854775807]) gLimits (by kernel_rfl : (Tryd.prog.globals[1]?).map (·.type) = some 87) (by kernel_rfl : Tryd.prog.underlying 87 = some (.array 2 68)) Tryd.underlying68 (by kernel_rfl) (by kernel_rfl) h
  exact ⟨hT.cell gLimits 0 (by decide), hT.cell gLimits 1 (by decide)⟩
theorem joins_in (a : Option Addr) (n cap : Nat) (g : Nat → TkR) (W : World) (l : Nm.Lim W) (hv : TkV W a n g) (hc : n ≤ maxLen ∧ (a = none → cap = 0)) : Calls Tryd.prog 3 #[.slice a n cap] W fun e w' => e = .returned (.bool true) ∧ Below W.heap.size W w' :=
  joins_walk a n cap g W l hc.1 hc.2 hv
end Go.Proofs.YtnbmecabnkhniaaDoor
