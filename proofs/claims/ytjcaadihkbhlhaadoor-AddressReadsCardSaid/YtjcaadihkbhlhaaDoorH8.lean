import Derived.Test.YtjcaadihkbhlhaaDoorH7
namespace Go.Proofs.YtjcaadihkbhlhaaDoor
open Go.RowKit
theorem textE_true (J : ByteArray) : textE true J = J := rfl
theorem textE_false (J : ByteArray) : textE false J = ⟨#[]⟩ := rfl
theorem numE_true : numE true = 0 := rfl
theorem numE_false : numE false = 150 := rfl
theorem canon_any (s : ByteArray) (m : Int) (w : World) (hm : w.cell? ⟨0, 0, none⟩ = some (.int .i64 m)) :
    Calls Tryd.prog 12 #[.string s] w fun e w' => e = .returned (.tuple #[.string (textE (okP s) (canS s)), .int .i64 (numE (okP s))]) ∧ Below w.heap.size w w' := by
  by_cases h : okP s = true
  · have C := canon_yes s m w hm h
    rw [h, textE_true, numE_true]
    exact C
  · replace h : okP s = false := by simpa using h
    have C := canon_no s m w hm h
    rw [h, textE_false, numE_false]
    exact C
end Go.Proofs.YtjcaadihkbhlhaaDoor
