/- Layer 4: alive. -/
import Derived.Test.YtoicmcjpaodgpaaDoorK10
namespace Go.Proofs.YtoicmcjpaodgpaaDoor
open Go.RowKit Go.Maps
theorem five_text : jwT (gl fiveL) 5 = ⟨#[123, 34, 97, 34, 58, 49, 44, 34, 98, 34, 58, 91, 110, 117, 108, 108, 44, 34, 120, 34, 93, 125]⟩ ∧ jwE (gl fiveL) 5 = 0 := by decide +kernel
def thrL : List CR := [⟨6, ⟨#[]⟩, ⟨#[]⟩, 0, 2⟩, ⟨2, ⟨#[]⟩, ⟨#[]⟩, 0, 0⟩, ⟨3, ⟨#[]⟩, ⟨#[240, 159, 152, 128]⟩, 0, 0⟩]
theorem thr_read : readM ⟨#[91, 32, 45, 48, 32, 44, 32, 34, 92, 117, 100, 56, 51, 100, 92, 117, 100, 101, 48, 48, 34, 32, 93]⟩ = .ok thrL := by kernel_rfl
theorem five_smk : SmK (gl fiveL) 5 := by
  have key : ∀ i, i < 5 → (gl fiveL i).nm.size ≤ 3000 ∧ (gl fiveL i).tx.size ≤ 3000 ∧ i64ok (gl fiveL i).n := by
    intro i hi
    rcases (by omega : i = 0 ∨ i = 1 ∨ i = 2 ∨ i = 3 ∨ i = 4) with rfl | rfl | rfl | rfl | rfl <;> exact ⟨by decide, by decide, by unfold i64ok; decide⟩
  exact ⟨fun i hi => (key i hi).1, fun i hi => (key i hi).2.1, fun i hi => (key i hi).2.2, ⟨five_cw, fun i hi => Nat.le_trans (key i hi).1 (by decide), by decide⟩⟩
theorem lit_true (c : List CR) (s : ByteArray) (h : readM s = .ok c) : okM (readM s) (gl c) c.length = true := by
  rw [h]
  exact sm_lists rfl
set_option maxRecDepth 20000 in
set_option maxHeartbeats 2000000 in
theorem alive_any (w : World) (hj : JF w) : Calls Tryd.prog 11 #[] w fun e w' => e = .returned (.bool true) ∧ Below w.heap.size w w' := by
  have H5 := Lib.hid (cv_block (L := fiveL) (heap_alloc_new w (.cells #[.int .u8 7, .string ⟨#[]⟩, .string ⟨#[]⟩, .int .i64 0, .int .i64 2, .int .u8 2, .string ⟨#[97]⟩, .string ⟨#[]⟩, .int .i64 1, .int .i64 0, .int .u8 6, .string ⟨#[98]⟩, .string ⟨#[]⟩, .int .i64 0, .int .i64 2, .int .u8 0, .string ⟨#[]⟩, .string ⟨#[]⟩, .int .i64 0, .int .i64 0, .int .u8 3, .string ⟨#[]⟩, .string ⟨#[120]⟩, .int .i64 0, .int .i64 0] 42)) rfl)
  have HB0 := Lib.hid ((Below.refl w.heap.size w).alloc (Nat.le_refl _) (.cells #[.int .u8 7, .string ⟨#[]⟩, .string ⟨#[]⟩, .int .i64 0, .int .i64 2, .int .u8 2, .string ⟨#[97]⟩, .string ⟨#[]⟩, .int .i64 1, .int .i64 0, .int .u8 6, .string ⟨#[98]⟩, .string ⟨#[]⟩, .int .i64 0, .int .i64 2, .int .u8 0, .string ⟨#[]⟩, .string ⟨#[]⟩, .int .i64 0, .int .i64 0, .int .u8 3, .string ⟨#[]⟩, .string ⟨#[120]⟩, .int .i64 0, .int .i64 0] 42))
  have HW := Lib.hid (jWrite_any _ (hj.tab.later HB0.out) (some ⟨w.heap.size, 0, none⟩) 5 5 (gl fiveL) five_smk H5.out)
  rw [five_text.1, five_text.2] at HW
  have HR := Lib.hid (fun (W : World) (b : Below w.heap.size w W) => reads_any ⟨#[91, 32, 45, 48, 32, 44, 32, 34, 92, 117, 100, 56, 51, 100, 92, 117, 100, 101, 48, 48, 34, 32, 93]⟩ (some ⟨W.heap.size, 0, none⟩) 3 3 (gl thrL) (W.alloc (.cells #[.int .u8 6, .string ⟨#[]⟩, .string ⟨#[]⟩, .int .i64 0, .int .i64 2, .int .u8 2, .string ⟨#[]⟩, .string ⟨#[]⟩, .int .i64 0, .int .i64 0, .int .u8 3, .string ⟨#[]⟩, .string ⟨#[240, 159, 152, 128]⟩, .int .i64 0, .int .i64 0] 42)) ((hj.up b).up ((Below.refl _ _).alloc (Nat.le_refl _) _)) (by decide) (cv_block (L := thrL) (heap_alloc_new W (.cells #[.int .u8 6, .string ⟨#[]⟩, .string ⟨#[]⟩, .int .i64 0, .int .i64 2, .int .u8 2, .string ⟨#[]⟩, .string ⟨#[]⟩, .int .i64 0, .int .i64 0, .int .u8 3, .string ⟨#[]⟩, .string ⟨#[240, 159, 152, 128]⟩, .int .i64 0, .int .i64 0] 42)) rfl) (by decide))
  have HT := Lib.hid (lit_true thrL _ thr_read)
  clear hj
  go_enter Tryd.func11, Tryd.ntmps11
  go_wp2_with fail
  refine HW.out.mono ?_
  rintro e w1 ⟨rfl, b1⟩
  have HB1 := Lib.hid (HB0.out.trans (b1.mono (by simp)))
  clear b1
  go_wp2_with fail
  refine (HR.out w1 HB1.out).mono ?_
  rintro e w2 ⟨rfl, b2⟩
  have HT2 := HT.out
  rw [show (thrL.length) = 3 by rfl] at HT2
  rw [HT2]
  have HB2 := Lib.hid ((HB1.out.alloc HB1.out.size _).trans (b2.mono (by simp; exact Nat.le_succ_of_le HB1.out.size)))
  clear b2 HT2
  go_wp2_with fail
  go_ret
  exact ⟨rfl, HB2.out⟩
end Go.Proofs.YtoicmcjpaodgpaaDoor
