import Derived.Test.YtfphejndbnmfeaaDoorU17
import Derived.Test.YtfphejndbnmfeaaDoorU8
namespace Go.Proofs.YtfphejndbnmfeaaDoor
open Go.RowKit

theorem rcanon_any (s : ByteArray) (w : World) :
    Calls Tryd.prog 33 #[.string s] w fun e w' => e = .returned (.tuple #[.string (cnS s), .int .i64 (upE s)]) ∧ Below w.heap.size w w' := by
  have hl := upL_length s
  have HO := Lib.hid (upL_okB s)
  rcases upE_cases s with ⟨h0, h1, h2⟩ | ⟨h0, h1, h2, h3⟩
  · have H1 := Lib.hid h1
    have H2 := Lib.hid h2
    clear h0 h1 h2
    obtain ⟨L, hL⟩ : ∃ L, L = upL s := ⟨_, rfl⟩
    rw [← hL] at hl HO
    have HL := Lib.hid hL
    have HLL := Lib.hid hl
    clear hL
    have sL : (arC L).size = 16 := by rw [arC_size, hl]
    have hst := fun w => store_new w L hl
    clear hl
    go_enter Tryd.func33, Tryd.ntmps33
    go_wp2_with fail
    refine (rparse_any s _).mono ?_
    rintro e w1 ⟨rfl, b1⟩
    rw [← HL.out, H1.out]
    have HB1 := Lib.hid b1
    clear b1
    unfold arV
    go_wp2_with fail
    rw [fold16 sL]
    have HB2 : Hid (Below w.heap.size w (w1.alloc (.cells (arC L) 50))) := Lib.hid (HB1.out.alloc HB1.out.size _)
    refine (rtext_any L HLL.out HO.out _).mono ?_
    rintro e w2 ⟨rfl, b2⟩
    have HB3 := Lib.hid (HB2.out.trans (b2.mono HB2.out.size))
    clear b2
    go_wp2_with fail
    go_ret2
    exact ⟨ret_si (by rw [H2.out, ← HL.out]) H1.out.symm, HB3.out⟩
  · have H1 := Lib.hid h1
    have H2 := Lib.hid h2
    clear h0 h1 h2 h3
    obtain ⟨L, hL⟩ : ∃ L, L = upL s := ⟨_, rfl⟩
    rw [← hL] at hl HO
    have HL := Lib.hid hL
    clear hL
    have sL : (arC L).size = 16 := by rw [arC_size, hl]
    have hst := fun w => store_new w L hl
    clear hl
    go_enter Tryd.func33, Tryd.ntmps33
    go_wp2_with fail
    refine (rparse_any s _).mono ?_
    rintro e w1 ⟨rfl, b1⟩
    rw [← HL.out, H1.out]
    have HB1 := Lib.hid b1
    clear b1
    unfold arV
    go_wp2_with fail
    go_ret2
    exact ⟨ret_si H2.out.symm H1.out.symm, HB1.out.alloc HB1.out.size _⟩
end Go.Proofs.YtfphejndbnmfeaaDoor
