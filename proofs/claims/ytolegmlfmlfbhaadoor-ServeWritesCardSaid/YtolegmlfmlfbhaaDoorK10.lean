import Derived.Test.YtolegmlfmlfbhaaDoorK9
import Derived.Test.YtolegmlfmlfbhaaDoorRows
import Derived.Test.YtolegmlfmlfbhaaDoorTie
import Derived.Test.YtolegmlfmlfbhaaDoorCards
import Derived.Test.YtolegmlfmlfbhaaDoorK1
import Derived.WalkKit
import Derived.ProofKit
import Derived.OpenShut
import Derived.LaidMore
import Derived.Stop.Joined
import Derived.SevenTiedAt
import Derived.Lib.LaidTab
import Derived.Stop.LaidErr
import Derived.ShutString
import Derived.ChangeOld
import Derived.Carry
/- Layer 31, ServeWrites: what comes in: cells, and errors; what the listed tables give the walk. -/
namespace Go.Proofs.YtolegmlfmlfbhaaDoor
open Go.ChangeShapes Go.WideShapes Go.ChangeAt Go.RowKit
theorem own : ownKnob Tryd.prog.godebug = none := by kernel_rfl
theorem laidOut : laidOutB Tryd.prog = true := by kernel_rfl
def vCell : Vw := vCons (vInt .u8) (vCons zStr (vCons zStr (vCons (vInt .i64) (vCons (vInt .i64) vNil))))
def vStep : Vw := vCons zStr (vCons (vInt .i64) vNil)
theorem oInt : OpensZ Tryd.prog (vInt .i64) 3 := (opens_int Tryd.underlying3 (by kernel_rfl)).z
theorem oStr : OpensZ Tryd.prog zStr 9 := zopens_str Tryd.underlying9 (by kernel_rfl)
set_option maxRecDepth 100000 in
theorem oCell : OpensZ Tryd.prog vCell 34 := zopens_struct Tryd.underlying34 (by kernel_rfl) (zfopens_cons rfl (opens_int Tryd.underlying5 (by kernel_rfl)).z (zfopens_cons rfl oStr (zfopens_cons rfl oStr (zfopens_cons rfl (opens_int Tryd.underlying2 (by kernel_rfl)).z (zfopens_cons rfl oInt (zfopens_nil _ _))))))
set_option maxRecDepth 100000 in
theorem oStep : OpensZ Tryd.prog vStep 30 := zopens_struct Tryd.underlying30 (by kernel_rfl) (zfopens_cons rfl oStr (zfopens_cons rfl oInt (zfopens_nil _ _)))
def vFault : Vw := vCons zStr (vCons (zSlice vStep (Tryd.prog.bytesOf 30)) (vCons zStr (vCons (vInt .i64) (vCons (vInt .i64) (vCons (vInt .i64) vNil)))))
set_option maxRecDepth 100000 in
theorem oFault : OpensZ Tryd.prog vFault 27 := zopens_struct Tryd.underlying27 (by kernel_rfl) (zfopens_cons rfl oStr (zfopens_cons rfl (zopens_slice Tryd.underlying25 (by kernel_rfl) oStep (by decide)) (zfopens_cons rfl oStr (zfopens_cons rfl oInt (zfopens_cons rfl oInt (zfopens_cons rfl oInt (zfopens_nil _ _)))))))
theorem oCells : OpensZ Tryd.prog (zSlice vCell (Tryd.prog.bytesOf 34)) 22 := zopens_slice Tryd.underlying22 (by kernel_rfl) oCell (by decide)
theorem oFaults : OpensZ Tryd.prog (zSlice vFault (Tryd.prog.bytesOf 27)) 23 := zopens_slice Tryd.underlying23 (by kernel_rfl) oFault (by decide)
abbrev CD := Int × ByteArray × ByteArray × Int × Int × Unit
abbrev SD := ByteArray × Int × Unit
abbrev FD := ByteArray × List SD × ByteArray × Int × Int × Int × Unit
def cd0 : CD := (0, ⟨#[]⟩, ⟨#[]⟩, 0, 0, ())
def sd0 : SD := (⟨#[]⟩, 0, ())
def fd0 : FD := (⟨#[]⟩, [], ⟨#[]⟩, 0, 0, 0, ())
def toCR (d : CD) : CR := ⟨d.1.toNat, d.2.1, d.2.2.1, d.2.2.2.1, d.2.2.2.2.1⟩
def toSt (d : SD) : StR := ⟨d.1, d.2.1⟩
def toFt (d : FD) : FtR := ⟨d.1, d.2.1.length, fun k => toSt (d.2.1.getD k sd0), d.2.2.1, d.2.2.2.1, d.2.2.2.2.1, d.2.2.2.2.2.1⟩
theorem cell_es {w : World} {d : CD} {es : List Value} (h : vCell.rd w d es) : es = [.int .u8 (toCR d).k, .string (toCR d).nm, .string (toCR d).tx, .int .i64 (toCR d).n, .int .i64 (toCR d).m] ∧ i64ok (toCR d).n := by
  obtain ⟨k, nm, tx, n, m, u⟩ := d
  obtain ⟨e1, r1, q1, _, _, ⟨h1, w1⟩, k1⟩ := h
  obtain ⟨e2, r2, q2, _, _, ⟨h2, _⟩, k2⟩ := k1
  obtain ⟨e3, r3, q3, _, _, ⟨h3, _⟩, k3⟩ := k2
  obtain ⟨e4, r4, q4, _, _, ⟨h4, w4⟩, k4⟩ := k3
  obtain ⟨e5, r5, q5, _, _, ⟨h5, _⟩, k5⟩ := k4
  have k5' : r5 = [] := k5
  have b1 := bounds_u8 w1
  have b4 := bounds_i64 w4
  dsimp only at h1 h2 h3 h4 h5 b1 b4
  refine ⟨?_, b4⟩
  rw [q1, q2, q3, q4, q5, k5', h1, h2, h3, h4, h5]
  show ([.int .u8 k, .string nm, .string tx, .int .i64 n, .int .i64 m] : List Value) = [.int .u8 ((k.toNat : Nat) : Int), .string nm, .string tx, .int .i64 n, .int .i64 m]
  rw [Int.toNat_of_nonneg b1.1]
theorem step_es {w : World} {d : SD} {es : List Value} (h : vStep.rd w d es) : es = [.string (toSt d).nm, .int .i64 (toSt d).ix] ∧ i64ok (toSt d).ix := by
  obtain ⟨nm, ix, u⟩ := d
  obtain ⟨e1, r1, q1, _, _, ⟨h1, _⟩, k1⟩ := h
  obtain ⟨e2, r2, q2, _, _, ⟨h2, w2⟩, k2⟩ := k1
  have k2' : r2 = [] := k2
  have b2 := bounds_i64 w2
  dsimp only at h1 h2 b2
  refine ⟨?_, b2⟩
  rw [q1, q2, k2', h1, h2]
  rfl
theorem fault_es {w : World} {d : FD} {es : List Value} (h : vFault.rd w d es) : ∃ pa pc, es = [.string (toFt d).code, .slice pa (toFt d).np pc, .string (toFt d).dir, .int .i64 (toFt d).rule, .int .i64 (toFt d).line, .int .i64 (toFt d).col] ∧ StV w pa (toFt d).np (toFt d).st ∧ InF (toFt d) := by
  obtain ⟨code, path, dir, rule, line, col, u⟩ := d
  obtain ⟨e1, r1, q1, _, _, ⟨h1, z1⟩, k1⟩ := h
  obtain ⟨e2, r2, q2, _, _, h2, k2⟩ := k1
  obtain ⟨e3, r3, q3, _, _, ⟨h3, z3⟩, k3⟩ := k2
  obtain ⟨e4, r4, q4, _, _, ⟨h4, w4⟩, k4⟩ := k3
  obtain ⟨e5, r5, q5, _, _, ⟨h5, w5⟩, k5⟩ := k4
  obtain ⟨e6, r6, q6, _, _, ⟨h6, w6⟩, k6⟩ := k5
  obtain ⟨a, c, g1, g2, g3, g4, _, g5⟩ := h2
  have k6' : r6 = [] := k6
  have b4 := bounds_i64 w4
  have b5 := bounds_i64 w5
  have b6 := bounds_i64 w6
  dsimp only at h1 h3 h4 h5 h6 g1 g2 g5 z1 z3 b4 b5 b6
  have hst : ∀ i, i < path.length → i64ok (toSt (path.getD i sd0)).ix ∧ ∃ b off, a = some ⟨b, off, none⟩ ∧ b < w.heap.size ∧ w.cell? ⟨b, off + i * 2, none⟩ = some (.string (toSt (path.getD i sd0)).nm) ∧ w.cell? ⟨b, off + i * 2 + 1, none⟩ = some (.int .i64 (toSt (path.getD i sd0)).ix) := fun i hi => by
    obtain ⟨b, off, e, hb, es, _, hc, hr⟩ := g5 i hi
    obtain ⟨he, hk⟩ := step_es hr
    have hgd : path.getD i sd0 = path[i]'hi := by rw [List.getD_eq_getElem?_getD, List.getElem?_eq_getElem hi]; rfl
    rw [hgd]
    rw [he] at hc
    exact ⟨hk, b, off, e, hb, hc 0 (by decide), hc 1 (by decide)⟩
  refine ⟨a, c, ?_, fun i hi => (hst i hi).2, ⟨?_, ?_, ?_, b4, b5, b6, fun i hi => (hst i hi).1⟩⟩
  · rw [q1, q2, q3, q4, q5, q6, k6', h1, g1, h3, h4, h5, h6]
    rfl
  · have := reachBytes_lt; exact Nat.le_trans z1 (by omega)
  · have := reachBytes_lt; exact Nat.le_trans z3 (by omega)
  · exact Nat.le_trans g2 g3
theorem open_cells {H : Type} {enc : TypeId × Value → H} {W : World} {base : Nat} {sp : Nat → Bool} {held : Bool} {a : Option Addr} {n cap : Nat} {d : DataW H} {ps : List MemPlace} (h : DataW.Trod enc Tryd.prog W base sp held 22 (.slice a n cap) d ps) (hw : Lt Tryd.prog 22 d) : ∃ g, CV W a n g ∧ n ≤ maxLen ∧ ∀ i, i < n → i64ok (g i).n := by
  obtain ⟨fuel, hf⟩ := h
  obtain ⟨ds0, hds⟩ := oCells.2 hf hw
  obtain ⟨ds, e0⟩ : ∃ ds : List CD, ds = ds0 := ⟨ds0, rfl⟩
  subst e0
  obtain ⟨a', c, he, h1, h2, h3, _, h5⟩ := hds
  simp only [Value.cells, List.cons.injEq, Value.slice.injEq, and_true] at he
  obtain ⟨rfl, rfl, rfl⟩ := he
  have key : ∀ i, i < ds.length → i64ok (toCR (ds.getD i cd0)).n ∧ ∃ b off, a = some ⟨b, off, none⟩ ∧ b < W.heap.size ∧ W.cell? ⟨b, off + i * 5, none⟩ = some (.int .u8 (toCR (ds.getD i cd0)).k) ∧ W.cell? ⟨b, off + i * 5 + 1, none⟩ = some (.string (toCR (ds.getD i cd0)).nm) ∧ W.cell? ⟨b, off + i * 5 + 2, none⟩ = some (.string (toCR (ds.getD i cd0)).tx) ∧ W.cell? ⟨b, off + i * 5 + 3, none⟩ = some (.int .i64 (toCR (ds.getD i cd0)).n) ∧ W.cell? ⟨b, off + i * 5 + 4, none⟩ = some (.int .i64 (toCR (ds.getD i cd0)).m) := fun i hi => by
    obtain ⟨b, off, e, hb, es, _, hc, hr⟩ := h5 i hi
    obtain ⟨he, hk⟩ := cell_es hr
    have hgd : ds.getD i cd0 = ds[i]'hi := by rw [List.getD_eq_getElem?_getD, List.getElem?_eq_getElem hi]; rfl
    rw [hgd]
    rw [he] at hc
    exact ⟨hk, b, off, e, hb, hc 0 (by decide), hc 1 (by decide), hc 2 (by decide), hc 3 (by decide), hc 4 (by decide)⟩
  exact ⟨fun i => toCR (ds.getD i cd0), fun i hi => (key i hi).2, Nat.le_trans h1 h2, fun i hi => (key i hi).1⟩
theorem open_faults {H : Type} {enc : TypeId × Value → H} {W : World} {base : Nat} {sp : Nat → Bool} {held : Bool} {a : Option Addr} {n cap : Nat} {d : DataW H} {ps : List MemPlace} (h : DataW.Trod enc Tryd.prog W base sp held 23 (.slice a n cap) d ps) (hw : Lt Tryd.prog 23 d) : ∃ fs, FtV W a n fs ∧ n ≤ maxLen ∧ ∀ i, i < n → InF (fs i) := by
  obtain ⟨fuel, hf⟩ := h
  obtain ⟨ds0, hds⟩ := oFaults.2 hf hw
  obtain ⟨ds, e0⟩ : ∃ ds : List FD, ds = ds0 := ⟨ds0, rfl⟩
  subst e0
  obtain ⟨a', c, he, h1, h2, h3, _, h5⟩ := hds
  simp only [Value.cells, List.cons.injEq, Value.slice.injEq, and_true] at he
  obtain ⟨rfl, rfl, rfl⟩ := he
  have key : ∀ i, i < ds.length → ∃ x : FD, ds.getD i fd0 = x ∧ InF (toFt x) ∧ ∃ b off pa pc, a = some ⟨b, off, none⟩ ∧ b < W.heap.size ∧ StV W pa (toFt x).np (toFt x).st ∧ W.cell? ⟨b, off + i * 6, none⟩ = some (.string (toFt x).code) ∧ W.cell? ⟨b, off + i * 6 + 1, none⟩ = some (.slice pa (toFt x).np pc) ∧ W.cell? ⟨b, off + i * 6 + 2, none⟩ = some (.string (toFt x).dir) ∧ W.cell? ⟨b, off + i * 6 + 3, none⟩ = some (.int .i64 (toFt x).rule) ∧ W.cell? ⟨b, off + i * 6 + 4, none⟩ = some (.int .i64 (toFt x).line) ∧ W.cell? ⟨b, off + i * 6 + 5, none⟩ = some (.int .i64 (toFt x).col) := fun i hi => by
    obtain ⟨b, off, e, hb, es, _, hc, hr⟩ := h5 i hi
    obtain ⟨pa, pc, he, hk, hin⟩ := fault_es hr
    have hgd : ds.getD i fd0 = ds[i]'hi := by rw [List.getD_eq_getElem?_getD, List.getElem?_eq_getElem hi]; rfl
    rw [he] at hc
    exact ⟨ds[i]'hi, hgd, hin, b, off, pa, pc, e, hb, hk, hc 0 (by decide), hc 1 (by decide), hc 2 (by decide), hc 3 (by decide), hc 4 (by decide), hc 5 (by decide)⟩
  refine ⟨fun i => toFt (ds.getD i fd0), fun i hi => ?_, Nat.le_trans h1 h2, fun i hi => ?_⟩
  · obtain ⟨x, hx, _, hr⟩ := key i hi
    show ∃ b off pa pc, a = some ⟨b, off, none⟩ ∧ b < W.heap.size ∧ StV W pa (toFt (ds.getD i fd0)).np (toFt (ds.getD i fd0)).st ∧ W.cell? ⟨b, off + i * 6, none⟩ = some (.string (toFt (ds.getD i fd0)).code) ∧ W.cell? ⟨b, off + i * 6 + 1, none⟩ = some (.slice pa (toFt (ds.getD i fd0)).np pc) ∧ W.cell? ⟨b, off + i * 6 + 2, none⟩ = some (.string (toFt (ds.getD i fd0)).dir) ∧ W.cell? ⟨b, off + i * 6 + 3, none⟩ = some (.int .i64 (toFt (ds.getD i fd0)).rule) ∧ W.cell? ⟨b, off + i * 6 + 4, none⟩ = some (.int .i64 (toFt (ds.getD i fd0)).line) ∧ W.cell? ⟨b, off + i * 6 + 5, none⟩ = some (.int .i64 (toFt (ds.getD i fd0)).col)
    rw [hx]; exact hr
  · obtain ⟨x, hx, hr, _⟩ := key i hi
    show InF (toFt (ds.getD i _))
    rw [hx]; exact hr
/-! ### The listed tables -/
def laid3 : List (String × DataW Unit) := [("math/bits.deBruijn32tab", Rows.laid_math_bits_deBruijn32tab), ("math/bits.deBruijn64tab", Rows.laid_math_bits_deBruijn64tab), ("internal/strconv.uint64pow10", Rows.laid_internal_strconv_uint64pow10)]
theorem door_met3 (os : Os) (args : Array Value) : laidMetH Tryd.prog laid3 ((World.doorLaid Tryd.prog 400 os).forCall (fun _ _ => 0) ⟨#[], args, []⟩).memory :=
  laidMetH_of_parts3 (fuel := 8) (laidMet_of_run' 8 (by kernel_rfl) (by kernel_rfl)) (by kernel_rfl) (by kernel_rfl)
theorem facts3 {W : World} (h : laidMetH Tryd.prog laid3 W) : Tabs W := by
  rw [MakeChecks.laidMetH_plain _ _ _ (by kernel_rfl)] at h
  have h2 := laidMet.tail (laidMet.tail h)
  exact Lib.tabIs_of_head (k := .u64) (zs := Lib.pow10Tab) gPow (by kernel_rfl : (Tryd.prog.globals[1]?).map (·.type) = some 93) (by kernel_rfl : Tryd.prog.underlying 93 = some (.array 20 80)) Tryd.underlying80 (by kernel_rfl) (by kernel_rfl) h2
end Go.Proofs.YtolegmlfmlfbhaaDoor
