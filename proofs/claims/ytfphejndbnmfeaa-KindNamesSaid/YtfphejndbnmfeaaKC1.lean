import Derived.Test.YtfphejndbnmfeaaK5
import Derived.Deep.MidRow
import Derived.Deep.QuietTactic
import Derived.Laws.BitsLemmas
import Derived.Maps.OwnSet
namespace Go.Proofs.Ytfphejndbnmfeaa
open Go.RowKit Go.Maps
/-- The table's cells. -/
def rowsL : List Value := [.string ⟨#[]⟩, .bool false, .bool false, .bool false, .bool false, .bool false, .string ⟨#[73, 110, 116]⟩, .bool false, .bool true, .bool true, .bool true, .bool false, .string ⟨#[83, 116, 114, 105, 110, 103]⟩, .bool true, .bool false, .bool true, .bool false, .bool true, .string ⟨#[66, 111, 111, 108, 101, 97, 110]⟩, .bool false, .bool false, .bool false, .bool false, .bool false, .string ⟨#[73, 68]⟩, .bool true, .bool true, .bool true, .bool false, .bool true, .string ⟨#[68, 97, 116, 101, 84, 105, 109, 101]⟩, .bool true, .bool false, .bool true, .bool false, .bool false, .string ⟨#[85, 85, 73, 68]⟩, .bool true, .bool false, .bool true, .bool false, .bool false, .string ⟨#[68, 101, 99, 105, 109, 97, 108]⟩, .bool true, .bool true, .bool true, .bool true, .bool false, .string ⟨#[85, 82, 76]⟩, .bool true, .bool false, .bool false, .bool false, .bool true]
/-- A scalar's name, by its number. -/
def scN (k : Nat) : ByteArray := ([⟨#[]⟩, ⟨#[73, 110, 116]⟩, ⟨#[83, 116, 114, 105, 110, 103]⟩, ⟨#[66, 111, 111, 108, 101, 97, 110]⟩, ⟨#[73, 68]⟩, ⟨#[68, 97, 116, 101, 84, 105, 109, 101]⟩, ⟨#[85, 85, 73, 68]⟩, ⟨#[68, 101, 99, 105, 109, 97, 108]⟩, ⟨#[85, 82, 76]⟩] : List ByteArray).getD k ⟨#[]⟩
theorem rowsL_at (k : Nat) (h : k < 9) : rowsL[k * 6]? = some (.string (scN k)) := by
  have : k = 0 ∨ k = 1 ∨ k = 2 ∨ k = 3 ∨ k = 4 ∨ k = 5 ∨ k = 6 ∨ k = 7 ∨ k = 8 := by omega
  rcases this with rfl | rfl | rfl | rfl | rfl | rfl | rfl | rfl | rfl <;> rfl
theorem rowsL_one : ∀ v ∈ rowsL, v.oneCell' = true := by
  intro v hv
  have : (rowsL.all fun v => v.oneCell') = true := by decide +kernel
  exact List.all_eq_true.1 this v hv
theorem rowsL_len : rowsL.length = 54 := rfl
theorem s51 : (Try.prog.info? 51).map (·.size) = some 54 := by kernel_rfl
theorem t51 : Try.prog.underlying 51 = some (.array 9 50) := Try.underlying51
theorem there_new (w : World) (cs : Array Value) (t : TypeId) (n : Nat) (h : cs.size = n) : (w.alloc (.cells cs t)).there w.heap.size 0 n := fun j hj => by
  rw [Nat.zero_add]
  refine ⟨?_, ?_⟩
  · simp only [World.cell?, heap_alloc_new]
    simp [h, hj]
  · have h2 := heap_alloc_new w (.cells cs t)
    simp only [World.frozen?, h2]
    simp
theorem below_cells {B : Nat} {w : World} (b : Nat) (hb : B ≤ b) : ∀ (vs : List Value) (o : Nat) (W : World), Below B w W → Below B w (W.setCells b o vs)
  | [], _, _, h => h
  | v :: r, o, W, h => below_cells b hb r (o + 1) _ (h.setCell hb v)
theorem results_cell_one {fn : Func} {p : Tmp} {ty : TypeId} (h : fn.results = #[.cell p ty]) (tmps : Array Value) (P : Program) (w : World) :
    (results fn tmps).run P w = ((asAddr (tmps.getD p undef)).run P w).andThen fun a w₁ => (loadVar ty a).run P w₁ := by
  simp only [results, h]
  simp [Sem.run_bind, Result.andThen]
theorem ret_big {fn : Func} {p : Tmp} {ty : TypeId} {Q : Ending → World → Prop} {tmps : Array Value} {w : World} {N : Nat} {cs : Array Value} (hf : fn.results = #[.cell p ty]) (h2 : tmps.getD p undef = .pointer (some ⟨N, 0, none⟩)) (hl : (loadVar ty ⟨N, 0, none⟩).run Try.prog w = .ok (.agg cs) w)
    (hQ : Q (.returned (.agg cs)) w) : bodyPost Try.prog fn Q .ret ⟨tmps, []⟩ w := by
  refine bodyPost_ret (v := .agg cs) ?_ rfl hQ
  rw [results_cell_one hf, h2]
  simp [asAddr, Result.andThen, hl]
theorem rows_any (w : World) : Calls Try.prog 13 #[] w fun e w' => e = .returned (.agg rowsL.toArray) ∧ Below w.heap.size w w' := by
  have H1 := fun cs (h : Array.size cs = 54) => World.rangeAt_setCells_same (w.alloc (.cells cs 51)) w.heap.size 0 rowsL (there_new w cs 51 54 h)
  have H2 := fun cs => below_cells (w := w) w.heap.size (Nat.le_refl _) rowsL 0 (w.alloc (.cells cs 51)) ((Below.refl _ w).alloc (Nat.le_refl _) _)
  have HA := Lib.hid H1
  have HB := Lib.hid H2
  clear H1 H2
  go_enter Try.func13, Try.ntmps13
  go_wp2_with (first
    | (refine wpList_store_mid rfl 51 (.tmp 0) (.tmp 9) rfl w.heap.size 0 rowsL.toArray (by rfl) (by rfl) (there_new w _ 51 54 (by rfl)) s51 (all_oneCell_toArray rowsL_one) ?_))
  generalize hW : World.setCells _ _ _ _ = W
  have HA1 : W.rangeAt w.heap.size 0 rowsL := by rw [← hW]; exact HA.out _ rfl
  have HB1 : Below w.heap.size w W := by rw [← hW]; exact HB.out _
  exact ret_big Try.results13 (by rfl) (run_loadVar_mid (P := Try.prog) _ w.heap.size 0 51 rowsL _ HA1 t51 rfl (by rw [rowsL_len]; exact s51)) ⟨rfl, HB1⟩
/-- The search for a name among the scalars'. -/
def scan (s : ByteArray) : Nat → Nat → Nat × Bool
  | 0, _ => (0, false)
  | f + 1, k => if (scN k).toList == s.toList then (k, true) else scan s f (k + 1)
def scOf (s : ByteArray) : Nat × Bool := scan s 8 1
set_option maxRecDepth 20000 in
theorem of_any (s : ByteArray) (w : World) : Calls Try.prog 8 #[.string s] w fun e w' => e = .returned (.tuple #[.int .u8 (scOf s).1, .bool (scOf s).2]) ∧ Below w.heap.size w w' := by
  obtain ⟨R, hR⟩ : ∃ R, R = scOf s := ⟨_, rfl⟩
  rw [← hR]
  have HR := Lib.hid hR
  clear hR
  have HA := Lib.hid (fun (W : World) cs (h : Array.size cs = 54) => World.rangeAt_setCells_same (W.alloc (.cells cs 51)) W.heap.size 0 rowsL (there_new W cs 51 54 h))
  have HB := Lib.hid (fun (W : World) cs => below_cells (w := W) W.heap.size (Nat.le_refl _) rowsL 0 (W.alloc (.cells cs 51)) ((Below.refl _ W).alloc (Nat.le_refl _) _))
  go_enter Try.func8, Try.ntmps8
  go_wp2_with fail
  refine (rows_any _).mono ?_
  rintro e w1 ⟨rfl, b1⟩
  have HL := Lib.hid b1
  clear b1
  go_wp2_with (first
    | (refine wpList_store_mid rfl 51 (.tmp 4) (.tmp 6) rfl w1.heap.size 0 rowsL.toArray (by rfl) (by rfl) (there_new w1 _ 51 54 (by rfl)) s51 (all_oneCell_toArray rowsL_one) ?_))
  generalize hW : World.setCells _ _ _ _ = W
  have HA1 : W.rangeAt w1.heap.size 0 rowsL := by rw [← hW]; exact HA.out w1 _ rfl
  have HB1 : Below w1.heap.size w1 W := by rw [← hW]; exact HB.out w1 _
  have HN : ∀ k, k < 9 → W.cell? ⟨w1.heap.size, k * 6, none⟩ = some (.string (scN k)) := fun k hk => by
    have := HA1 _ _ (rowsL_at k hk)
    rwa [Nat.zero_add] at this
  have HN' := Lib.hid HN
  have HBW := Lib.hid (HL.out.trans (HB1.mono HL.out.size))
  clear hW HA1 HB1 HN HA HB HL
  go_loopg [5] 9 (fun f v wr => W = wr ∧ ∃ k : Nat, v = .int .u8 (k : Nat) ∧ 1 ≤ k ∧ k ≤ 9 ∧ 9 - k ≤ f ∧ scan s (9 - k) k = R)
  case atStart => exact ⟨rfl, 1, rfl, by omega, by omega, by omega, HR.out.symm⟩
  case round =>
    obtain ⟨rfl, k, rfl, h1, h9, hf, hsc⟩ := hrel
    by_cases hk : k < 9
    · have hk' : (k : Int) < 9 := by omega
      have hc := HN'.out k hk
      obtain ⟨nm, hnm⟩ : ∃ nm, nm = scN k := ⟨_, rfl⟩
      rw [← hnm] at hc
      rw [show 9 - k = (9 - (k + 1)) + 1 by omega] at hsc
      simp only [scan] at hsc
      rw [← hnm] at hsc
      have HS := Lib.hid hsc
      have HF := Lib.hid hf
      have HK := Lib.hid h9
      have hw8 : IntKind.u8.wrap ((k : Int) + 1) = ((k + 1 : Nat) : Int) := by
        rw [show ((k : Int) + 1) = ((k + 1 : Nat) : Int) by omega]
        rw [IntKind.wrap_u8]; omega
      clear hsc hf hnm h9 hk
      cases hq : nm.toList == s.toList with
      | true =>
        go_wp2_with fail
        go_ret2
        refine ⟨?_, HBW.out⟩
        have := HS.out
        rw [hq] at this
        rw [← this]
        rfl
      | false =>
        go_wp2_with fail
        go_roundg (gk - 1)
        case measure => have := HF.out; omega
        case rel =>
          refine ⟨rfl, k + 1, by rw [show ((k + 1 : Nat) : Int) = (k : Int) + 1 by omega], by omega, by omega, by have := HF.out; omega, ?_⟩
          have := HS.out
          rw [hq] at this
          exact this
    · have e9 : k = 9 := by omega
      subst e9
      have HS := Lib.hid hsc
      clear hsc hf h9 hk h1
      go_wp2_with fail
      go_ret2
      refine ⟨?_, HBW.out⟩
      rw [← HS.out]
      rfl
end Go.Proofs.Ytfphejndbnmfeaa
