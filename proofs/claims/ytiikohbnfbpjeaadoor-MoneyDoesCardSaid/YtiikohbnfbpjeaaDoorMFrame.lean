/- The frame of the tied rows over Decimals: what the listed tables give the walks; a Decimal that comes in; and the world's shape. -/
import Derived.Test.YtiikohbnfbpjeaaDoorRows
import Derived.Test.YtiikohbnfbpjeaaDoorTie
import Derived.Test.YtiikohbnfbpjeaaDoorCards
import Derived.Test.YtiikohbnfbpjeaaDoorM15
import Derived.WalkKit
import Derived.ProofKit
import Derived.OpenShut
import Derived.LaidMore
import Derived.Stop.Joined
import Derived.SevenTiedAt
import Derived.Lib.LaidTab
import Derived.Carry
import Derived.HandedShaped
import Derived.Lay
import Derived.Shelf.Vars
import Derived.Stop.LaidErr
import Derived.ShutString
import Derived.ChangeOld
namespace Go.Proofs.YtiikohbnfbpjeaaDoor
open Go.ChangeShapes Go.WideShapes Go.ChangeAt Go.RowKit

theorem own : ownKnob Tryd.prog.godebug = none := by kernel_rfl
theorem laidOut : laidOutB Tryd.prog = true := by kernel_rfl
theorem returns_and_shaped {H : Type} {enc : TypeId × Value → H} {a : Assume} {C : Checked} {os : Os} {f : FuncId} {fn : Func} {s : ChangeSpec} {conds : List PathCond} {apart fresh handsOn again : Bool} {X : World → Array Value → Prop}
    (hX : ∀ (w w' : World) (args : Array Value), w.heap = w'.heap → X w args → X w' args)
    (own : ownKnob C.prog.godebug = none) (started : os.Started) (noInit : C.prog.inits.idxOf? f = none) (hfn : C.prog.funcs[f]? = some fn)
    (witness : ∃ (w : World) (tape : Tape) (i : Input), w.os = os ∧ (w.forCall tape i).Shaped C.prog ∧ i.vars = [] ∧ Input.okWide C.prog (w.forCall tape i) .any w.heap.size f i ∧
      ((s.pre enc C.prog fn conds apart (w.forCall tape i).memory i.args ∧ X (w.forCall tape i).memory i.args) ∧ sizedMet enc C.prog fn (OpenSpec.ofChange s) apart (w.forCall tape i).memory i.args) ∧ a.holds C.prog (lone (Frame.enter C.prog f i.args .normal) [] (w.forCall tape i)))
    (contract : ∀ (W : World) (base : Nat) (args : Array Value) (ds gs : List (DataW H)) (before : List MemPlace),
      (∀ (j : Nat) t v, fn.params[j]? = some t → args[j]? = some v → Value.okWide C.prog W .any base t v) →
      DataW.Whole enc C.prog fn.params.toList s.vars apart W args.toList ds gs before → X W args → W.ShapedOpen C.prog →
      Calls C.prog f args W fun e W' => ∃ v, e = .returned v ∧ s.post enc C.prog fn apart fresh handsOn again W args v W') :
    ReturnsInHanded a C os f .any (fun w args => (s.pre enc C.prog fn conds apart w args ∧ X w args) ∧ sizedMet enc C.prog fn (OpenSpec.ofChange s) apart w args) (s.post enc C.prog fn apart fresh handsOn again) := by
  refine returnsInHanded_of_calls own started noInit witness ?_
  intro w tape i _ hsh _ hok hpre hholds
  obtain ⟨_, _, _, fn', hfn', _, _, _, _, hval⟩ := hok
  have e : fn' = fn := Option.some.inj (hfn'.symm.trans hfn)
  subst e
  obtain ⟨⟨⟨ds, gs, before, hw, hc⟩, hx⟩, hz⟩ := hpre
  have hw' := DataW.Whole.of_heap (w' := w.forCall tape i) (by rfl) hw
  refine (contract (w.forCall tape i) w.heap.size i.args ds gs before hval hw' (hX _ _ _ (by rfl) hx) hsh).mono fun e W' ⟨v, he, hp⟩ => ?_
  subst he
  exact ChangeSpec.post_blind hp
set_option maxRecDepth 10000 in
/-- A Decimal that comes in. -/
theorem open_money {H : Type} {enc : TypeId × Value → H} {W : World} {base : Nat} {sp : Nat → Bool} {held : Bool} {r : Reach} {b0 : Nat} {v : Value} {d : DataW H} {ps : List MemPlace}
    (hv : Value.okWide Tryd.prog W r b0 26 v) (h : DataW.Trod enc Tryd.prog W base sp held 26 v d ps) :
    ∃ s n : Int, v = .agg #[.int .i64 s, .int .i64 n] ∧ ps = [] ∧ -9223372036854775808 ≤ s ∧ s ≤ 9223372036854775807 ∧ -9223372036854775808 ≤ n ∧ n ≤ 9223372036854775807 := by
  simp only [Value.okWide, Tryd.underlying26] at hv
  obtain ⟨cs, rfl, _, _⟩ := hv
  obtain ⟨fuel, hf⟩ := h
  obtain ⟨y0, y1, k, hx, hl, h0, h1⟩ := trod_struct2 Tryd.underlying26 hf
  have c2 : Tryd.prog.cellsOf 2 = 1 := by kernel_rfl
  have c3 : Tryd.prog.cellsOf 3 = 1 := by kernel_rfl
  have c26 : Tryd.prog.cellsOf 26 = 2 := by kernel_rfl
  simp only [Value.cells] at hl h0 h1
  rw [c26] at hl
  rw [c2] at h0
  rw [c3] at h1
  match hcs : cs.toList, hl with
  | [a, b], _ =>
    rw [hcs] at h0 h1
    obtain ⟨x, ea, ex, wa⟩ := DataW.trod_int Tryd.underlying2 h0
    obtain ⟨z, eb, ez, wb⟩ := DataW.trod_int Tryd.underlying3 h1
    have ha : a = .int .i64 x := by simpa using ea
    have hb : b = .int .i64 z := by simpa using eb
    have b1 := bounds_i64 wa
    have b2 := bounds_i64 wb
    refine ⟨x, z, ?_, ?_, b1.1, b1.2, b2.1, b2.2⟩
    · rw [show cs = #[.int .i64 x, .int .i64 z] from Array.toList_inj.1 (by rw [hcs, ha, hb])]
    · have hx' := Prod.mk.inj hx
      rw [hx'.2, ex, ez]; rfl
theorem tLim : (Tryd.prog.globals[3]?).map (·.type) = some 143 := by kernel_rfl
theorem tPow : (Tryd.prog.globals[4]?).map (·.type) = some 145 := by kernel_rfl
theorem gLim : Tryd.prog.globalNamed "provost/whole.limits" = some 3 := by kernel_rfl
theorem maxLen_of {W : World} (h : W.ShapedOpen Tryd.prog) : ∃ m, W.cell? ⟨2, 0, none⟩ = some (.int .i64 m) :=
  cell_of_shapedOpen_int h (of_decide_eq_true (by kernel_rfl)) (t := 3) (zero := #[.int .i64 0]) (by kernel_rfl) rfl (by kernel_rfl) (by kernel_rfl) Tryd.underlying3
theorem lim_of {W : World} {rest : List (String × DataW Unit)} (h : laidMet Tryd.prog (("provost/whole.limits", Rows.laid_provost_whole_limits) :: rest) W) : Lim W := by
  have hT := Lib.tabIs_of_head (k := .u64) (zs := [9223372036854775808, 9223372036854775807]) gLim tLim Tryd.underlying143 Tryd.underlying58 (by kernel_rfl) (by kernel_rfl) h
  exact ⟨hT.cell gLim 0 (by decide), hT.cell gLim 1 (by decide)⟩
/-- The listed variables of the rows that read and write texts. -/
def laid6 : List (String × DataW Unit) := [("math/bits.deBruijn32tab", Rows.laid_math_bits_deBruijn32tab), ("math/bits.deBruijn64tab", Rows.laid_math_bits_deBruijn64tab), ("internal/strconv.uint64pow10", Rows.laid_internal_strconv_uint64pow10), ("unicode/utf8.acceptRanges", Rows.laid_unicode_utf8_acceptRanges), ("provost/whole.limits", Rows.laid_provost_whole_limits), ("unicode/utf8.first", Rows.laid_unicode_utf8_first)]
theorem door_met6 (os : Os) (args : Array Value) : laidMetH Tryd.prog laid6 ((World.laidAll Tryd.prog os laid6).forCall (fun _ _ => 0) ⟨#[], args, []⟩).memory := by
  rw [MakeChecks.laidMetH_plain _ _ _ (by kernel_rfl)]; exact laidMet_laidAll _ (by kernel_rfl) (by kernel_rfl)
set_option maxRecDepth 100000 in
theorem facts6 {W : World} (h : laidMetH Tryd.prog laid6 W) (hs : W.ShapedOpen Tryd.prog) : TL W ∧ PW W := by
  rw [MakeChecks.laidMetH_plain _ _ _ (by kernel_rfl)] at h
  have h2 := laidMet.tail (laidMet.tail h)
  have hP := Lib.tabIs_of_head (k := .u64) (zs := Lib.pow10Tab) gPow tPow Tryd.underlying145 Tryd.underlying58 (by kernel_rfl) (by kernel_rfl) h2
  exact ⟨⟨lim_of (laidMet.tail (laidMet.tail h2)), maxLen_of hs⟩, hP⟩
/-- The listed variables of the rows that read texts alone. -/
def laid3 : List (String × DataW Unit) := [("unicode/utf8.acceptRanges", Rows.laid_unicode_utf8_acceptRanges), ("provost/whole.limits", Rows.laid_provost_whole_limits), ("unicode/utf8.first", Rows.laid_unicode_utf8_first)]
theorem door_met3 (os : Os) (args : Array Value) : laidMetH Tryd.prog laid3 ((World.laidAll Tryd.prog os laid3).forCall (fun _ _ => 0) ⟨#[], args, []⟩).memory := by
  rw [MakeChecks.laidMetH_plain _ _ _ (by kernel_rfl)]; exact laidMet_laidAll _ (by kernel_rfl) (by kernel_rfl)
set_option maxRecDepth 100000 in
theorem facts3 {W : World} (h : laidMetH Tryd.prog laid3 W) (hs : W.ShapedOpen Tryd.prog) : TL W := by
  rw [MakeChecks.laidMetH_plain _ _ _ (by kernel_rfl)] at h
  exact ⟨lim_of (laidMet.tail h), maxLen_of hs⟩
/-- The listed variables of the row that writes texts alone. -/
def laidP : List (String × DataW Unit) := [("math/bits.deBruijn32tab", Rows.laid_math_bits_deBruijn32tab), ("math/bits.deBruijn64tab", Rows.laid_math_bits_deBruijn64tab), ("internal/strconv.uint64pow10", Rows.laid_internal_strconv_uint64pow10)]
theorem door_metP (os : Os) (args : Array Value) : laidMetH Tryd.prog laidP ((World.laidAll Tryd.prog os laidP).forCall (fun _ _ => 0) ⟨#[], args, []⟩).memory := by
  rw [MakeChecks.laidMetH_plain _ _ _ (by kernel_rfl)]; exact laidMet_laidAll _ (by kernel_rfl) (by kernel_rfl)
set_option maxRecDepth 100000 in
theorem factsP {W : World} (h : laidMetH Tryd.prog laidP W) (_ : W.ShapedOpen Tryd.prog) : PW W := by
  rw [MakeChecks.laidMetH_plain _ _ _ (by kernel_rfl)] at h
  exact Lib.tabIs_of_head (k := .u64) (zs := Lib.pow10Tab) gPow tPow Tryd.underlying145 Tryd.underlying58 (by kernel_rfl) (by kernel_rfl) (laidMet.tail (laidMet.tail h))
end Go.Proofs.YtiikohbnfbpjeaaDoor
