import Derived.Test.YtfphejndbnmfeaaDoorU7
namespace Go.Proofs.YtfphejndbnmfeaaDoor
open Go.RowKit

def cnS (s : ByteArray) : ByteArray := if okS s then txS (upL s) else ⟨#[]⟩
theorem upE_cases (s : ByteArray) : okS s = true ∧ upE s = 0 ∧ cnS s = txS (upL s) ∨ okS s = false ∧ upE s = 130 ∧ cnS s = ⟨#[]⟩ ∧ upL s = z16 := by
  cases h : okS s
  · right; unfold upE cnS upL; rw [h]; exact ⟨rfl, rfl, rfl, rfl⟩
  · left; unfold upE cnS; rw [h]; exact ⟨rfl, rfl, rfl⟩
theorem ret_si {a b : ByteArray} {c d : Int} (h : a = b) (g : c = d) : Ending.returned (.tuple #[.string a, .int .i64 c]) = .returned (.tuple #[.string b, .int .i64 d]) := by rw [h, g]
/-- A whole array is laid into a variable that has just been made. -/
theorem store_new (w : World) (L : List Int) (h : L.length = 16) :
    (storeCells ⟨w.heap.size, 0, none⟩ (arC L).toList 0).run Tryd.prog (w.alloc (.cells #[.int .u8 0, .int .u8 0, .int .u8 0, .int .u8 0, .int .u8 0, .int .u8 0, .int .u8 0, .int .u8 0, .int .u8 0, .int .u8 0, .int .u8 0, .int .u8 0, .int .u8 0, .int .u8 0, .int .u8 0, .int .u8 0] 50)) = .ok () (w.alloc (.cells (arC L) 50)) := by
  refine run_storeCells_new (P := Tryd.prog) w 50 _ (arC L) ?_ ?_ ?_
  · rw [arC_size, h]; exact info50
  · rw [arC_size, h]; rfl
  · rw [Array.all_eq_true]
    intro i hi
    simp [arC]
    rfl
theorem canon_any (s : ByteArray) (w : World) (hp : Prt w) :
    Calls Tryd.prog 28 #[.string s] w fun e w' => e = .returned (.tuple #[.string (cnS s), .int .i64 (upE s)]) ∧ Below w.heap.size w w' := by
  have HP := Lib.hid hp
  clear hp
  have hl := upL_length s
  have HO := Lib.hid (upL_okB s)
  rcases upE_cases s with ⟨h0, h1, h2⟩ | ⟨h0, h1, h2, h3⟩
  · have H1 := Lib.hid h1
    have H2 := Lib.hid h2
    clear h0 h1 h2
    obtain ⟨L, hL⟩ : ∃ L, L = upL s := ⟨_, rfl⟩
    rw [← hL] at hl HO
    have HL := Lib.hid hL
    have HLL := Lib.hid hl
    clear hL
    have sL : (arC L).size = 16 := by rw [arC_size, hl]
    have hst := fun w => store_new w L hl
    clear hl
    go_enter Tryd.func28, Tryd.ntmps28
    go_wp2_with fail
    refine (parse_any s _).mono ?_
    rintro e w1 ⟨rfl, b1⟩
    rw [← HL.out, H1.out]
    have HB1 := Lib.hid b1
    clear b1
    unfold arV
    go_wp2_with fail
    rw [fold16 sL]
    have hs : (w1.alloc (.cells (arC L) 50)).heap.size = w1.heap.size + 1 := by simp
    have HB2 : Hid (Below w.heap.size w (w1.alloc (.cells (arC L) 50))) := Lib.hid (HB1.out.alloc HB1.out.size _)
    refine (text_any L HLL.out HO.out _ (HP.out.below HB2.out HP.out.1)).mono ?_
    rintro e w2 ⟨rfl, b2⟩
    have HB3 := Lib.hid (HB2.out.trans (b2.mono HB2.out.size))
    clear b2
    go_wp2_with fail
    go_ret2
    exact ⟨ret_si (by rw [H2.out, ← HL.out]) H1.out.symm, HB3.out⟩
  · have H1 := Lib.hid h1
    have H2 := Lib.hid h2
    clear h0 h1 h2 h3
    obtain ⟨L, hL⟩ : ∃ L, L = upL s := ⟨_, rfl⟩
    rw [← hL] at hl HO
    have HL := Lib.hid hL
    clear hL
    have sL : (arC L).size = 16 := by rw [arC_size, hl]
    have hst := fun w => store_new w L hl
    clear hl
    go_enter Tryd.func28, Tryd.ntmps28
    go_wp2_with fail
    refine (parse_any s _).mono ?_
    rintro e w1 ⟨rfl, b1⟩
    rw [← HL.out, H1.out]
    have HB1 := Lib.hid b1
    clear b1
    unfold arV
    go_wp2_with fail
    go_ret2
    exact ⟨ret_si H2.out.symm H1.out.symm, HB1.out.alloc HB1.out.size _⟩
end Go.Proofs.YtfphejndbnmfeaaDoor
